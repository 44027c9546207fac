package index

import (
	"iter"

	"sealwax/wire"
)

// The parts of a Label: what a posting is stored under, and what hides its bytes.
const (
	labelPart = iota
	maskPart
)

// posting says that a text has a word, or that it does not have it any more.
type posting struct {
	id      int
	removes bool
}

// bytes returns what is hidden.
func (p posting) bytes() block {
	n := 2 * p.id
	if p.removes {
		n++
	}
	return blockOf(new(wire.Out).Num(n).Bytes())
}

// postingOf is the reverse of bytes. (Read looks at the labels alone, so that these may be any bytes: what is not a number counts as 0.)
func postingOf(b block) posting {
	n := wire.Of(string(b[:])).Num()
	return posting{id: n / 2, removes: n%2 == 1}
}

// blockOf returns the first bytes of a text, with zero bytes behind them if it has fewer.
func blockOf(s string) block {
	var b block
	copy(b[:], s)
	return b
}

// counter tells which n of a word have postings: those from first on, less than next, that were not skipped.
type counter struct {
	first, next int
	skipped     []int // ascending
}

// skip leaves out the next n.
func (c counter) skip() counter {
	c.skipped = append(c.skipped, c.next)
	c.next++
	return c
}

// used goes through the n that have postings.
func (c counter) used() iter.Seq[int] {
	return func(yield func(int) bool) {
		skipped := c.skipped
		for n := c.first; n < c.next; n++ {
			if len(skipped) > 0 && skipped[0] == n {
				skipped = skipped[1:]
			} else if !yield(n) {
				return
			}
		}
	}
}

// of goes through the postings of a word in the order of their n.
func (x *Index) of(w string) iter.Seq[posting] {
	return func(yield func(posting) bool) {
		for n := range x.counters[w].used() {
			if !yield(postingOf(x.masked(w, n, x.postings[x.label(w, n)]))) {
				return
			}
		}
	}
}

// label returns what the n-th posting of a word is stored under.
func (x *Index) label(w string, n int) block { return x.suite.Label(w, n, labelPart) }

// masked hides the bytes of the n-th posting of a word. Masked again, they are what they were.
func (x *Index) masked(w string, n int, b block) block {
	for i, m := range x.suite.Label(w, n, maskPart) {
		b[i] ^= m
	}
	return b
}
