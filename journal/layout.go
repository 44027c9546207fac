package journal

import (
	"slices"
	"strings"

	"sealwax/api"
	"sealwax/sha"
	"sealwax/wire"
)

const (
	mark    = "SWJL"
	perPage = 32 // numbers on a page
)

// rounded returns n divided by d, rounded up.
func rounded(n, d int) int { return (n + d - 1) / d }

// bodySize returns the number of pages of a journal of n writes, without the header.
func bodySize(n int) int { return rounded(n, perPage) + n }

// filled returns a page that begins with these bytes.
func filled(s string) string { return new(wire.Out).Fixed(s, api.Page).Bytes() }

// headerOf returns the first page of a journal of n writes, body being all other ones.
func headerOf(n int, body ...string) string {
	sum := sha.Of(body...)
	return filled(new(wire.Out).Raw(mark).Num(n).Raw(string(sum[:])).Bytes())
}

// countOf returns the number of writes that a header says, 0 if it is none.
func countOf(header string) int {
	in := wire.Of(header)
	if in.Raw(len(mark)) != mark {
		return 0
	}
	return in.Num()
}

// bodyOf returns all pages of a journal except its header.
func bodyOf(l ...Page) []string {
	out := make([]string, 0, bodySize(len(l)))
	for some := range slices.Chunk(l, perPage) {
		var numbers wire.Out
		for _, x := range some {
			numbers.Num(x.At)
		}
		out = append(out, filled(numbers.Bytes()))
	}
	for _, x := range l {
		out = append(out, x.Data)
	}
	return out
}

// pagesOf returns the n writes of a body, and false if one of their numbers is none.
func pagesOf(n int, body []string) ([]Page, bool) {
	first := len(body) - n
	numbers := wire.Of(strings.Join(body[:first], ""))
	out := make([]Page, 0, n)
	for _, data := range body[first:] {
		out = append(out, Page{At: numbers.Num(), Data: data})
	}
	return out, numbers.Err() == api.OK
}
