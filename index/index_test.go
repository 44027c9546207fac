package index_test

import (
	"math"
	"slices"
	"strings"
	"testing"

	"sealwax/api"
	"sealwax/index"
	"sealwax/suite"
)

func want[T comparable](t *testing.T, what string, got, wanted T) {
	t.Helper()
	if got != wanted {
		t.Errorf("%s: got %v, want %v", what, got, wanted)
	}
}

// wantList takes lists and nil, which are equivalent if they are empty.
func wantList[T comparable](t *testing.T, what string, got []T, wanted ...T) {
	t.Helper()
	if !slices.Equal(got, wanted) {
		t.Errorf("%s: got %v, want %v", what, got, wanted)
	}
}

// both calls f with an index and a plain one, for each kind of suite.
func both(t *testing.T, f func(t *testing.T, x *index.Index, p *plain)) {
	for name, s := range suites() {
		t.Run(name, func(t *testing.T) {
			x, p := index.New(s[0]), newPlain(s[1])
			f(t, x, p)
			wantAlike(t, x, p)
			want(t, "Drawn", s[0].Drawn(), s[1].Drawn())
			wantAlike(t, wantRead(t, s[0], x.Pack()), p)
			want(t, "Drawn after Read", s[0].Drawn(), s[1].Drawn())
		})
	}
}

func TestExample(t *testing.T) {
	both(t, func(t *testing.T, x *index.Index, p *plain) {
		x.Add(5, "a", "b")
		x.Add(7, "a")
		x.Del(5, "a")
		wantFind(t, x, []string{"a"}, 7)
		wantFind(t, x, []string{"b"}, 5)
		p.add(5, false, "a", "b")
		p.add(7, false, "a")
		p.add(5, true, "a")
	})
}

// TestNew: no words, no postings.
func TestNew(t *testing.T) {
	for name, s := range suites() {
		x := index.New(s[0])
		wantAlike(t, x, newPlain(s[1]))
		want(t, name, x.Pack(), zeros(16))
		want(t, "Fresh", x.Fresh("a", "b", ""), 0)
		want(t, "Fresh of nothing", x.Fresh(), 0)
		for _, l := range [][]string{nil, {}, {"a"}, {""}, {"a", "b"}} {
			wantFind(t, x, l)
		}
		wantAlike(t, x, newPlain(s[1]))
		want(t, "Drawn", s[0].Drawn(), 0)
		want(t, "another one", x == index.New(s[0]), false)
	}
}

// TestLayout: P16.1, the bytes that Pack returns and the labels, one by one.
func TestLayout(t *testing.T) {
	s := suite.Ideal("0123456789abcdef")
	x := index.New(s)
	x.Add(1, "cat")
	x.Del(300, "b2")
	x.Add(2, "cat")
	first := zeros(7) + "\x00" + "01234567"
	firstMask := zeros(7) + "\x01" + "89abcdef"
	second := zeros(7) + "\x02" + "01234567"
	secondMask := zeros(7) + "\x03" + "89abcdef"
	third := zeros(7) + "\x04" + "01234567"
	thirdMask := zeros(7) + "\x05" + "89abcdef"
	hide := func(bytes, mask string) string {
		out := []byte(bytes)
		for i := range out {
			out[i] ^= mask[i]
		}
		return string(out)
	}
	want(t, "Pack", x.Pack(), num(2)+
		"b2"+zeros(14)+num(1)+num(0)+num(0)+
		"cat"+zeros(13)+num(2)+num(0)+num(0)+
		num(3)+
		first+hide(zeros(7)+"\x02"+zeros(8), firstMask)+
		second+hide(zeros(6)+"\x02\x59"+zeros(8), secondMask)+
		third+hide(zeros(7)+"\x04"+zeros(8), thirdMask))
	want(t, "Drawn", s.Drawn(), 48)
	want(t, "the label", s.Label("cat", 1, 0), [16]byte([]byte(third)))
	want(t, "the mask", s.Label("b2", 0, 1), [16]byte([]byte(secondMask)))
	want(t, "Drawn then", s.Drawn(), 48)
}

// TestOnlyWords: what is not a word has no posting, and all others have theirs, in order.
func TestOnlyWords(t *testing.T) {
	wrong := []string{"", "A", "Cat", "a b", "a ", " a", "\x00", "a\x00", "caf\u00e9", "\xff", "abcdefghijklmnopq", strings.Repeat("a", 1000)}
	both(t, func(t *testing.T, x *index.Index, p *plain) {
		x.Add(1)
		x.Del(1)
		x.Add(1, wrong...)
		x.Del(1, wrong...)
		wantAlike(t, x, newPlain(nil))
		l := []string{"b", "", "a", "A", "abcdefghijklmnop", "b", "no word", "0"}
		x.Add(2, l...)
		p.add(2, false, "b", "a", "abcdefghijklmnop", "b", "0")
		want(t, "Len", x.Len(), 5)
		x.Del(2, l...)
		p.add(2, true, "b", "a", "abcdefghijklmnop", "b", "0")
		want(t, "Len", x.Len(), 10)
		for _, w := range wrong {
			wantFind(t, x, []string{w})
			want(t, "Fresh", x.Fresh(w), 0)
		}
		wantList(t, "Words", x.Words(), "0", "a", "abcdefghijklmnop", "b")
	})
}

// TestNumbersAreLimited: those beyond 0 to 2^40 count as the ends.
func TestNumbersAreLimited(t *testing.T) {
	for _, k := range []struct{ given, counts int }{
		{math.MinInt, 0}, {math.MinInt + 1, 0}, {-most, 0}, {-1, 0}, {0, 0}, {1, 1}, {255, 255}, {1 << 31, 1 << 31}, {1 << 32, 1 << 32}, {most - 1, most - 1}, {most, most},
		{most + 1, most}, {2 * most, most}, {1 << 61, most}, {1 << 62, most}, {1<<62 + 5, most}, {math.MaxInt - 1, most}, {math.MaxInt, most},
	} {
		both(t, func(t *testing.T, x *index.Index, p *plain) {
			x.Add(k.given, "a", "b", "c")
			wantFind(t, x, []string{"a"}, k.counts)
			x.Del(k.given, "b")
			wantFind(t, x, []string{"b"})
			x.Del(k.counts, "c")
			wantFind(t, x, []string{"c"})
			p.add(k.counts, false, "a", "b", "c")
			p.add(k.counts, true, "b", "c")
		})
	}
}

// TestLastCounts: P16.2, of the postings of a word the last one for a text counts, whatever there is for others.
func TestLastCounts(t *testing.T) {
	both(t, func(t *testing.T, x *index.Index, p *plain) {
		step := func(removes bool, id int, w string, wanted ...int) {
			t.Helper()
			if removes {
				x.Del(id, w)
			} else {
				x.Add(id, w)
			}
			p.add(id, removes, w)
			wantFind(t, x, []string{"a"}, wanted...)
		}
		step(true, 3, "a")
		step(false, 3, "a", 3)
		step(false, 3, "a", 3)
		step(true, 3, "a")
		step(true, 3, "a")
		step(false, 1, "a", 1)
		step(false, 3, "a", 1, 3)
		step(true, 3, "b", 1, 3)
		step(true, 2, "a", 1, 3)
		step(true, 1, "a", 3)
		step(false, 0, "a", 0, 3)
		step(false, 1, "a", 0, 1, 3)
		step(true, 0, "a", 1, 3)
		want(t, "Len", x.Len(), 13)
		wantList(t, "Words", x.Words(), "a", "b")
	})
}

func TestFind(t *testing.T) {
	both(t, func(t *testing.T, x *index.Index, p *plain) {
		for _, k := range []struct {
			id int
			l  []string
		}{{9, []string{"a", "b", "c"}}, {3, []string{"a"}}, {most, []string{"c", "a"}}, {0, []string{"b", "a"}}, {5, []string{"c", "b"}}} {
			x.Add(k.id, k.l...)
			p.add(k.id, false, k.l...)
		}
		wantFind(t, x, nil)
		wantFind(t, x, []string{})
		wantFind(t, x, []string{"a"}, 0, 3, 9, most)
		wantFind(t, x, []string{"b"}, 0, 5, 9)
		wantFind(t, x, []string{"c"}, 5, 9, most)
		wantFind(t, x, []string{"a", "b"}, 0, 9)
		wantFind(t, x, []string{"b", "a"}, 0, 9)
		wantFind(t, x, []string{"c", "a"}, 9, most)
		wantFind(t, x, []string{"c", "a", "b"}, 9)
		wantFind(t, x, []string{"a", "a", "a"}, 0, 3, 9, most)
		wantFind(t, x, []string{"a", "b", "a", "b", "a", "b", "a", "b", "a", "b"}, 0, 9)
		for _, w := range []string{"d", "", "A", "a b", "aa", "abcdefghijklmnopq", "a\x00"} {
			wantFind(t, x, []string{w})
			wantFind(t, x, []string{"a", w})
			wantFind(t, x, []string{w, "a"})
			wantFind(t, x, []string{"a", w, "b"})
		}
		x.Del(9, "a")
		p.add(9, true, "a")
		wantFind(t, x, []string{"c", "a", "b"})
		wantFind(t, x, []string{"c", "b"}, 5, 9)
	})
}

// TestFresh: P16.3 and what Fresh leaves: its postings follow those that were there, in ascending order of numbers.
func TestFresh(t *testing.T) {
	for _, s := range suites() {
		x, p := index.New(s[0]), newPlain(s[0])
		is := func(wanted ...plainWord) {
			t.Helper()
			p.words["a"], p.words["b"] = wanted[0], wanted[1]
			drawn := s[0].Drawn()
			wantAlike(t, x, p)
			wantRead(t, s[0], x.Pack())
			want(t, "Drawn", s[0].Drawn(), drawn) // so that all labels were known, in the order in which they are used
		}
		x.Add(7, "a", "b")
		x.Add(5, "a")
		x.Add(9, "a")
		x.Del(5, "a")
		x.Add(1, "a")
		x.Add(7, "a")
		x.Del(7, "b")
		a := plainWord{next: 6, first: 0, postings: []plainPosting{{0, 7, false}, {1, 5, false}, {2, 9, false}, {3, 5, true}, {4, 1, false}, {5, 7, false}}}
		b := plainWord{next: 2, first: 0, postings: []plainPosting{{0, 7, false}, {1, 7, true}}}
		is(a, b)
		want(t, "Fresh of nothing", x.Fresh(), 0)
		want(t, "Fresh of others", x.Fresh("c", "", "A", "a b"), 0)
		is(a, b)
		want(t, "Fresh", x.Fresh("a"), 3)
		is(plainWord{next: 9, first: 6, postings: []plainPosting{{6, 1, false}, {7, 7, false}, {8, 9, false}}}, b)
		want(t, "Fresh of what is fresh", x.Fresh("a"), 0)
		is(plainWord{next: 12, first: 9, postings: []plainPosting{{9, 1, false}, {10, 7, false}, {11, 9, false}}}, b)
		want(t, "Fresh of b and a twice", x.Fresh("b", "a", "c", "a"), 2)
		is(plainWord{next: 18, first: 15, postings: []plainPosting{{15, 1, false}, {16, 7, false}, {17, 9, false}}}, plainWord{next: 2, first: 2})
		want(t, "Fresh of b without postings", x.Fresh("b", "b"), 0)
		is(p.words["a"], plainWord{next: 2, first: 2})
		x.Add(4, "b")
		x.Del(9, "a")
		is(plainWord{next: 19, first: 15, postings: []plainPosting{{15, 1, false}, {16, 7, false}, {17, 9, false}, {18, 9, true}}}, plainWord{next: 3, first: 2, postings: []plainPosting{{2, 4, false}}})
		wantFind(t, x, []string{"a"}, 1, 7)
		wantFind(t, x, []string{"b"}, 4)
		wantFind(t, x, []string{"a", "b"})
	}
}

// TestFreshInOrder: an ideal suite is asked in the order of the words that are given, and then of the numbers.
func TestFreshInOrder(t *testing.T) {
	both(t, func(t *testing.T, x *index.Index, p *plain) {
		for _, id := range []int{9, 3, 5, 1} {
			x.Add(id, "a", "c", "b")
			p.add(id, false, "a", "c", "b")
		}
		x.Del(3, "a", "b")
		p.add(3, true, "a", "b")
		want(t, "Fresh", x.Fresh("c", "a", "d", "c", "b"), 4)
		for _, k := range []struct {
			w   string
			ids []int
		}{{"c", []int{1, 3, 5, 9}}, {"a", []int{1, 5, 9}}, {"c", []int{1, 3, 5, 9}}, {"b", []int{1, 5, 9}}} {
			next := p.words[k.w].next
			p.words[k.w] = plainWord{first: next, next: next}
			for _, id := range k.ids {
				p.add(id, false, k.w)
			}
		}
	})
}

// TestFreshOfEach: P16.3, whatever words are made anew, each result of Find stays.
func TestFreshOfEach(t *testing.T) {
	letters := []string{"a", "b", "c"}
	for name, s := range suites() {
		x := index.New(s[0])
		for i := range 60 {
			l := letters[i%3 : min(3, i%3+1+i%2)]
			if i%5 == 3 {
				x.Del(i*7%11, l...)
			} else {
				x.Add(i*7%11, l...)
			}
		}
		for bits := range 8 {
			var fresh []string
			c := x.Clone()
			for i, w := range letters {
				if bits>>i&1 == 1 {
					fresh = append(fresh, w)
				}
			}
			before := c.Len()
			want(t, "Fresh", c.Fresh(fresh...), before-c.Len())
			for other := range 8 {
				var l []string
				for i, w := range letters {
					if other>>i&1 == 1 {
						l = append(l, w)
					}
				}
				wantFind(t, c, l, x.Find(l...)...)
			}
			wanted := 0
			for _, w := range fresh {
				wanted += len(x.Find(w))
				want(t, name, len(wantRead(t, s[0], c.Pack()).Find(w)), len(x.Find(w)))
			}
			if bits == 7 {
				want(t, "Len", c.Len(), wanted)
			}
		}
	}
}

// TestClone: neither of the two sees what the other one does, and both have one suite.
func TestClone(t *testing.T) {
	for name, s := range suites() {
		x := index.New(s[0])
		x.Add(1, "a", "b")
		x.Del(2, "a")
		old := x.Pack()
		c := x.Clone()
		want(t, name, c == x, false)
		want(t, "Pack of the copy", c.Pack(), old)
		drawn := s[0].Drawn()
		c.Add(3, "a", "c")
		c.Fresh("b")
		if name != "real" {
			want(t, "Drawn", s[0].Drawn(), drawn+8*6)
		}
		want(t, "Pack of the first", x.Pack(), old)
		wantFind(t, x, []string{"a"}, 1)
		wantFind(t, c, []string{"a"}, 1, 3)
		wantList(t, "Words", x.Words(), "a", "b")
		packed := c.Pack()
		x.Fresh("a")
		x.Add(9, "a", "b", "d")
		want(t, "Pack of the copy", c.Pack(), packed)
		wantFind(t, c, []string{"a"}, 1, 3)
		wantFind(t, x, []string{"a"}, 1, 9)
		c = c.Clone().Clone()
		want(t, "Pack of a copy of a copy", c.Pack(), packed)
		wantRead(t, s[0], packed)
		wantRead(t, s[0], x.Pack())
	}
}

// TestSameLabelsAgain: a copy that goes on as the first one did asks for nothing new.
func TestSameLabelsAgain(t *testing.T) {
	for name, s := range suites() {
		x := index.New(s[0])
		x.Add(1, "a")
		c := x.Clone()
		x.Add(2, "b", "a")
		x.Fresh("a")
		drawn := s[0].Drawn()
		c.Add(2, "b", "a")
		c.Fresh("a")
		want(t, name, c.Pack(), x.Pack())
		want(t, "Drawn", s[0].Drawn(), drawn)
	}
}

// TestTellingChangesNothing: no call but Add, Del and Fresh asks for new labels, or changes anything.
func TestTellingChangesNothing(t *testing.T) {
	both(t, func(t *testing.T, x *index.Index, p *plain) {
		x.Add(1, "a", "b")
		p.add(1, false, "a", "b")
		for range 3 {
			x.Find("a", "b", "c")
			x.Find("c")
			x.Words()
			x.Len()
			x.Pack()
			x.Clone()
			wantRead(t, p.s, p.pack())
			wantAlike(t, x, p)
		}
	})
}

// TestHidden: what an index with an ideal suite tells without being searched does not depend on the words.
func TestHidden(t *testing.T) {
	var seen []string
	for _, l := range [][]string{{"a", "b", "c"}, {"zebra", "zebra", "zebra"}, {"c", "c", "0"}, {"abcdefghijklmnop", "q", "abcdefghijklmnop"}} {
		x := index.New(suite.Ideal("a tape"))
		x.Add(5, l...)
		x.Del(6, l[1])
		packed := x.Pack()
		seen = append(seen, packed[len(packed)-8-32*4:])
	}
	for _, postings := range seen {
		want(t, "the postings", postings, seen[0])
	}
	wanted := num(4)
	for i := range 4 {
		bytes := []byte(num(2*i + 1)) // the mask has the next number
		v := byte(10)
		if i == 3 {
			v = 13
		}
		bytes[7] ^= v
		wanted += num(2*i) + "a tapea " + string(bytes) + "tapea ta"
		if i%3 == 1 {
			wanted = wanted[:len(wanted)-32] + num(2*i) + "pea tape" + string(bytes) + "a tapea "
		}
		if i%3 == 2 {
			wanted = wanted[:len(wanted)-32] + num(2*i) + "tapea ta" + string(bytes) + "pea tape"
		}
	}
	want(t, "the postings", seen[0], wanted)
}

// TestNoLabelTwice: with a real suite too, each posting has a label of its own, and other bytes than all others.
func TestNoLabelTwice(t *testing.T) {
	x := index.New(suite.Real("a key"))
	for i := range 200 {
		x.Add(5, "a", "b", "c")
		if i%50 == 0 {
			x.Fresh("b")
		}
	}
	packed := x.Pack()
	packed = packed[len(packed)-32*x.Len():]
	seen := map[string]bool{}
	for packed != "" {
		if seen[packed[:16]] || seen[packed[16:32]] {
			t.Fatalf("%x occurs twice", packed[:32])
		}
		seen[packed[:16]], seen[packed[16:32]] = true, true
		packed = packed[32:]
	}
	want(t, "labels and bytes", len(seen), 2*x.Len())
}

// TestSuitesDiffer: indexes of different suites have other labels.
func TestSuitesDiffer(t *testing.T) {
	one, two := suite.Real("one"), suite.Real("two")
	x, y := index.New(one), index.New(two)
	x.Add(1, "a")
	y.Add(1, "a")
	if a, b := x.Pack(), y.Pack(); a[:56] != b[:56] || a[56:72] == b[56:72] || a[72:] == b[72:] {
		t.Errorf("got %x and %x", a, b)
	}
	wantNoRead(t, two, x.Pack(), api.ErrForm)
	wantNoRead(t, one, y.Pack(), api.ErrForm)
	wantNoRead(t, suite.Ideal("one"), x.Pack(), api.ErrForm)
}

// TestListsAreLeftAlone: rule 5, they are not changed, nor kept, nor is what lies behind them, and results are new.
func TestListsAreLeftAlone(t *testing.T) {
	for _, s := range suites() {
		x, p := index.New(s[0]), newPlain(s[1])
		given := []string{"c", "a", "C", "b", "z", "y"}
		l := slices.Clone(given)
		x.Add(1, l[:4]...)
		x.Del(2, l[:2]...)
		x.Find(l[:3]...)
		x.Fresh(l[:1]...)
		x.Find(l[:1]...)
		wantList(t, "the list", l, given...)
		p.add(1, false, given[:4]...)
		p.add(2, true, given[:2]...)
		p.fresh("c")
		clear(l)
		ids, again := x.Find("a"), x.Find("a")
		ids[0] = 77
		_ = append(ids[:0], 5, 6, 7)
		wantList(t, "another result", again, 1)
		all, others := x.Words(), x.Words()
		clear(all)
		_ = append(all[:0], "x", "y")
		wantList(t, "another result", others, "a", "b", "c")
		wantAlike(t, x, p)
	}
}

// TestMany: many postings of a word, and many words.
func TestMany(t *testing.T) {
	x := index.New(suite.Ideal("a tape"))
	for i := range 3000 {
		x.Add(i%1000, "a")
		if i%3 == 0 {
			x.Del(i%1000, "a")
		}
		w := string([]byte{'a' + byte(i/676%26), 'a' + byte(i/26%26), 'a' + byte(i%26)})
		x.Add(i, w)
	}
	want(t, "Len", x.Len(), 7000)
	want(t, "Words", len(x.Words()), 3001)
	ids := x.Find("a")
	if len(ids) == 0 || !slices.IsSorted(ids) {
		t.Errorf("got %v", ids)
	}
	want(t, "Fresh", x.Fresh("a"), 4000-len(ids))
	wantFind(t, x, []string{"a"}, ids...)
	wantFind(t, x, []string{"aab"}, 1)
	want(t, "Fresh of all", x.Fresh(x.Words()...), 0)
	wantFind(t, x, []string{"a"}, ids...)
}
