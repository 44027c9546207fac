package index_test

import (
	"math/rand"
	"strings"
	"testing"

	"sealwax/api"
	"sealwax/index"
	"sealwax/suite"
)

// anyWord returns one of a few words, so that they meet, or what is not a word.
func anyWord(r *rand.Rand) string {
	if r.Intn(12) == 0 {
		return []string{"", "A", "a b", "abcdefghijklmnopq", "a\x00", "\xff"}[r.Intn(6)]
	}
	return []string{"a", "b", "cat", "abcdefghijklmnop", "0", "z9"}[min(r.Intn(6), r.Intn(6))]
}

func anyWords(r *rand.Rand) []string {
	var l []string
	for range r.Intn(4) {
		l = append(l, anyWord(r))
	}
	return l
}

func anyNumber(r *rand.Rand) int {
	switch r.Intn(10) {
	case 0:
		return r.Int() >> r.Intn(63)
	case 1:
		return -r.Int() >> r.Intn(63)
	}
	return r.Intn(8)
}

// anyIndex does any calls to an index and a plain one, with copies in between, and compares all that they tell.
func anyIndex(t *testing.T, r *rand.Rand, steps int, x *index.Index, p *plain, s *suite.Suite) *index.Index {
	t.Helper()
	for range steps {
		l := anyWords(r)
		switch r.Intn(9) {
		case 0, 1, 2:
			id := anyNumber(r)
			x.Add(id, l...)
			p.add(id, false, l...)
		case 3, 4:
			id := anyNumber(r)
			x.Del(id, l...)
			p.add(id, true, l...)
		case 5:
			before := x.Find(l...)
			want(t, "Fresh", x.Fresh(l...), p.fresh(l...))
			wantFind(t, x, l, before...)
		case 6:
			wantFind(t, x, l, p.find(l...)...)
		case 7:
			old, packed := x, x.Pack()
			x = x.Clone()
			want(t, "Pack of the copy", x.Pack(), packed)
			if r.Intn(2) == 0 {
				x, old = old, x
			}
			old.Add(3, x.Words()...) // its labels are those of the next postings
			old.Fresh("cat")
			q := p.clone()
			q.add(3, false, p.list()...)
			q.fresh("cat")
			wantAlike(t, old, q)
		case 8:
			x = wantRead(t, s, x.Pack())
		}
	}
	return x
}

// TestAny: P16.1 to P16.4, any calls in any order.
func TestAny(t *testing.T) {
	r := rand.New(rand.NewSource(16))
	postings := 0
	for round := range 150 {
		for name, s := range suites() {
			x, p := index.New(s[0]), newPlain(s[1])
			for range 10 {
				x = anyIndex(t, r, 8, x, p, s[0])
				wantAlike(t, x, p)
				want(t, "Drawn", s[0].Drawn(), s[1].Drawn())
				if t.Failed() {
					t.Fatalf("round %d, %s", round, name)
				}
			}
			postings += x.Len()
		}
	}
	if postings < 150*4*20 {
		t.Errorf("%d postings at the end: the test asks too little", postings)
	}
}

// changed returns bytes that differ in some way that may be seen as late as possible.
func changed(r *rand.Rand, packed string) string {
	i := r.Intn(len(packed) + 1)
	j := i + r.Intn(len(packed)+1-i)
	switch r.Intn(9) {
	case 0:
		return packed[:i]
	case 1:
		return packed[:i] + packed[j:]
	case 2:
		return packed[:i] + packed[i:j] + packed[i:j] + packed[j:]
	case 3:
		return packed[:i] + strings.Repeat("\x00", r.Intn(20)) + packed[i:]
	}
	out := []byte(packed)
	for range 1 + r.Intn(2) {
		k := r.Intn(len(out))
		switch r.Intn(4) {
		case 0:
			out[k] ^= 1 << r.Intn(8)
		case 1:
			out[k] = byte(r.Intn(256))
		case 2:
			out[k] += byte(r.Intn(3)) - 1
		case 3: // the lowest byte of one of the numbers
			out[k/8*8+7] += byte(r.Intn(5)) - 2
		}
	}
	return string(out)
}

// TestReadAny: P16.1 and P16.4, bytes that were changed, against a reader that is written apart.
func TestReadAny(t *testing.T) {
	r := rand.New(rand.NewSource(161))
	counts := map[api.Errno]int{}
	for range 400 {
		for _, s := range suites() {
			x := anyIndex(t, r, r.Intn(12), index.New(s[0]), newPlain(s[1]), s[0])
			packed := x.Pack()
			for range 10 {
				other := changed(r, packed)
				e := plainRead(s[0].Clone(), other)
				counts[e]++
				if e != api.OK {
					wantNoRead(t, s[0].Clone(), other, e)
					continue
				}
				y := wantRead(t, s[0].Clone(), other)
				ids := y.Find("a")
				y.Fresh("a")
				wantFind(t, y, []string{"a"}, ids...)
			}
		}
	}
	if len(counts) != 3 || counts[api.OK] < 500 || counts[api.ErrForm] < 500 || counts[api.ErrEnd] < 500 {
		t.Errorf("%v: the test asks for one kind only", counts)
	}
}
