package index

import (
	"bytes"
	"iter"
	"maps"
	"slices"
	"strings"

	"sealwax/api"
	"sealwax/suite"
	"sealwax/wire"
	"sealwax/words"
)

// Pack returns the bytes from which Read makes the same index.
func (x *Index) Pack() string {
	var out wire.Out
	out.Num(len(x.counters))
	for _, w := range x.Words() {
		c := x.counters[w]
		out.Fixed(w, api.MaxWord).Num(c.next, c.first, len(c.skipped)).Num(c.skipped...)
	}
	out.Num(x.Len())
	byLabel := slices.SortedFunc(maps.Keys(x.postings), func(a, b block) int { return bytes.Compare(a[:], b[:]) })
	for _, label := range byLabel {
		stored := x.postings[label]
		out.Raw(string(label[:]), string(stored[:]))
	}
	return out.Bytes()
}

// Read is the reverse of Pack.
func Read(s *suite.Suite, t string) (*Index, api.Errno) {
	x, in := New(s), wire.Of(t)
	x.readCounters(in)
	x.readPostings(in)
	if e := in.End(); e != api.OK {
		return nil, e
	}
	if !x.isWhole() {
		return nil, api.ErrForm
	}
	return x, api.OK
}

func (x *Index) readCounters(in *wire.In) {
	last := ""
	for range parts(in) {
		w := strings.TrimRight(in.Raw(api.MaxWord), "\x00")
		if !words.Check(w) || w <= last {
			in.Fail(api.ErrForm)
		}
		x.counters[w] = readCounter(in)
		last = w
	}
}

func readCounter(in *wire.In) counter {
	var c counter
	c.next, c.first = in.Num(), in.Num()
	if c.next < c.first || c.next > api.MaxCount {
		in.Fail(api.ErrForm)
	}
	least := c.first
	for range parts(in) {
		n := in.Num()
		if n < least || n >= c.next {
			in.Fail(api.ErrForm)
		}
		c.skipped = append(c.skipped, n)
		least = n + 1
	}
	return c
}

func (x *Index) readPostings(in *wire.In) {
	last := ""
	for range parts(in) {
		label := in.Raw(blockSize)
		if label <= last {
			in.Fail(api.ErrForm)
		}
		x.postings[blockOf(label)] = blockOf(in.Raw(blockSize))
		last = label
	}
}

// parts reads how many parts follow, and goes on as often, but not beyond an error: there may be far fewer bytes.
func parts(in *wire.In) iter.Seq[int] {
	return func(yield func(int) bool) {
		count := in.Num()
		for i := 0; i < count && in.Err() == api.OK; i++ {
			if !yield(i) {
				return
			}
		}
	}
}

// isWhole reports whether there are postings under the labels of its words, each of them once, and under no other ones.
func (x *Index) isWhole() bool {
	left := maps.Clone(x.postings)
	for _, w := range x.Words() {
		for n := range x.counters[w].used() {
			label := x.label(w, n)
			if _, is := left[label]; !is {
				return false
			}
			delete(left, label)
		}
	}
	return len(left) == 0
}
