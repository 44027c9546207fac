package disk

import (
	"slices"

	"sealwax/api"
)

const maxSaved = 16

// Over replaces what is stable of a page.
func (d *Disk) Over(p int, data string) bool {
	if !d.has(p) || len(data) != api.Page {
		return false
	}
	d.stable[p] = data
	return true
}

// Swap exchanges what is stable of two pages.
func (d *Disk) Swap(p, q int) bool {
	if !d.has(p) || !d.has(q) {
		return false
	}
	d.stable[p], d.stable[q] = d.stable[q], d.stable[p]
	return true
}

// Save remembers everything that is stable and returns its number, or -1 if 16 states are remembered already.
func (d *Disk) Save() int {
	if len(d.saved) == maxSaved {
		return -1
	}
	d.saved = append(d.saved, slices.Clone(d.stable))
	return len(d.saved) - 1
}

// Back makes stable what was remembered under that number.
func (d *Disk) Back(i int) bool {
	if i < 0 || i >= len(d.saved) {
		return false
	}
	copy(d.stable, d.saved[i])
	return true
}
