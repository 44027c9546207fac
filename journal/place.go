package journal

import "sealwax/api"

const minSize = 3

// place is where a journal is, on a disk of that many pages.
type place struct{ at, size, disk int }

func (p place) exists() bool {
	return p.at >= 0 && p.size >= minSize && p.size <= p.disk-p.at
}

// serves reports whether all pages are as a journal in an existing place may have them: they must not change the journal itself.
func (p place) serves(l ...Page) bool {
	for _, x := range l {
		there := x.At >= 0 && x.At < p.disk
		inside := x.At >= p.at && x.At < p.at+p.size
		if !there || inside || len(x.Data) != api.Page {
			return false
		}
	}
	return true
}

// behindHeader says where the other pages of a journal are written.
func (p place) behindHeader(body ...string) []Page {
	out := make([]Page, 0, len(body))
	for i, data := range body {
		out = append(out, Page{At: p.at + 1 + i, Data: data})
	}
	return out
}
