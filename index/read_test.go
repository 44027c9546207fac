package index_test

import (
	"math"
	"slices"
	"strings"
	"testing"

	"sealwax/api"
	"sealwax/index"
	"sealwax/suite"
)

// head returns the bytes of a word and its numbers.
func head(w string, next, first int, skipped ...int) string {
	out := word(w) + num(next) + num(first) + num(len(skipped))
	for _, n := range skipped {
		out += num(n)
	}
	return out
}

// tail returns the bytes of all postings.
func tail(l ...string) string {
	slices.Sort(l)
	return num(len(l)) + strings.Join(l, "")
}

// small returns an index of a few words, and its bytes.
func small(s *suite.Suite) (*index.Index, string) {
	x := index.New(s)
	x.Add(300, "cat", "dog")
	x.Del(1, "cat")
	x.Add(2, "a", "cat")
	x.Fresh("dog")
	return x, x.Pack()
}

// TestReadAgain: P16.4, an index is read from its encoding, and goes on as the one that was packed.
func TestReadAgain(t *testing.T) {
	for name, s := range suites() {
		x, packed := small(s[0])
		y, z := wantRead(t, s[0], packed), wantRead(t, s[0], packed)
		want(t, name, y == z, false)
		for _, o := range []*index.Index{x, y, y.Clone()} {
			wantFind(t, o, []string{"cat"}, 2, 300)
			wantFind(t, o, []string{"dog", "cat"}, 300)
			want(t, "Len", o.Len(), 5)
			wantList(t, "Words", o.Words(), "a", "cat", "dog")
			o.Del(300, "cat")
			o.Add(7, "cat", "b")
			want(t, "Fresh", o.Fresh("cat", "a"), 3)
		}
		want(t, "Pack", x.Pack(), y.Pack())
		want(t, "Pack of the other", z.Pack(), packed)
		wantFind(t, y, []string{"cat"}, 2, 7)
		wantFind(t, z, []string{"cat"}, 2, 300)
		wantRead(t, s[0], y.Pack())
		wantRead(t, s[0].Clone(), y.Pack())
	}
}

// TestReadParts: every part of an encoding ends too early, and every longer text too late.
func TestReadParts(t *testing.T) {
	for _, s := range suites() {
		_, packed := small(s[0])
		for n := range packed {
			wantNoRead(t, s[0], packed[:n], api.ErrEnd)
		}
		for _, more := range []string{"\x00", "x", zeros(8), zeros(32), packed} {
			wantNoRead(t, s[0], packed+more, api.ErrForm)
		}
		wantRead(t, s[0], packed)
	}
}

// TestReadEveryBit: each one changed, against a reader that is written apart.
func TestReadEveryBit(t *testing.T) {
	for name, s := range suites() {
		_, packed := small(s[0])
		fine := 0
		for bit := range 8 * len(packed) {
			changed := []byte(packed)
			changed[bit/8] ^= 0x80 >> (bit % 8)
			other := string(changed)
			if e := plainRead(s[0].Clone(), other); e != api.OK {
				wantNoRead(t, s[0].Clone(), other, e)
				continue
			}
			wantRead(t, s[0].Clone(), other)
			fine++
		}
		if fine != 5*128 {
			t.Errorf("%s: only %d are read", name, fine)
		}
	}
}

// TestReadSkipped: a skipped n has no posting, and is never used.
func TestReadSkipped(t *testing.T) {
	for _, s := range suites() {
		at := func(n, id int) string { return plainEntry(s[0], "a", plainPosting{n, id, n%4 == 0}) }
		packed := num(1) + head("a", 9, 2, 3, 5, 8) + tail(at(2, 11), at(4, 11), at(6, 12), at(7, 11))
		x := wantRead(t, s[0], packed)
		wantFind(t, x, []string{"a"}, 11, 12)
		c := x.Clone()
		x.Add(13, "a")
		want(t, "Pack", x.Pack(), num(1)+head("a", 10, 2, 3, 5, 8)+tail(at(2, 11), at(4, 11), at(6, 12), at(7, 11), at(9, 13)))
		want(t, "Fresh", x.Fresh("a"), 2)
		want(t, "Pack", x.Pack(), num(1)+head("a", 13, 10)+tail(at(10, 11), at(11, 12), plainEntry(s[0], "a", plainPosting{12, 13, false})))
		want(t, "Pack of the copy", c.Pack(), packed)
		for _, all := range []string{head("a", 1, 0, 0), head("a", 3, 0, 0, 1, 2), head("a", most, most-2, most-2, most-1)} {
			y := wantRead(t, s[0], num(1)+all+num(0))
			wantFind(t, y, []string{"a"})
			wantList(t, "Words", y.Words(), "a")
			want(t, "Fresh", y.Fresh("a"), 0)
		}
	}
}

// TestReadSkippedLeftOut: the same postings with another n skipped are not those of the word.
func TestReadSkippedLeftOut(t *testing.T) {
	s := suite.Real("a key")
	at := func(n int) string { return plainEntry(s, "a", plainPosting{n, 5, false}) }
	for _, skipped := range [][]int{nil, {0}, {1}, {2}, {0, 1}, {0, 2}, {1, 2}, {0, 1, 2}} {
		for bits := range 8 {
			var entries []string
			fine := true
			for n := range 3 {
				if bits>>n&1 == 1 {
					entries = append(entries, at(n))
				}
				fine = fine && (bits>>n&1 == 0) == slices.Contains(skipped, n)
			}
			packed := num(1) + head("a", 3, 0, skipped...) + tail(entries...)
			if fine {
				wantRead(t, s, packed)
			} else {
				wantNoRead(t, s, packed, api.ErrForm)
			}
		}
	}
}

// TestReadPostings: those of its words, all of them, and no other ones.
func TestReadPostings(t *testing.T) {
	s := suite.Real("a key")
	at := func(w string, n int) string { return plainEntry(s, w, plainPosting{n, 5, false}) }
	words := num(2) + head("a", 2, 0) + head("b", 4, 3)
	wantRead(t, s, words+tail(at("a", 0), at("a", 1), at("b", 3)))
	for _, l := range [][]string{
		{}, {at("a", 0)}, {at("a", 0), at("a", 1)}, {at("a", 0), at("b", 3)}, {at("a", 1), at("b", 3)},
		{at("a", 0), at("a", 1), at("b", 2)}, {at("a", 0), at("a", 1), at("b", 4)}, {at("a", 0), at("a", 2), at("b", 3)}, {at("a", 0), at("a", 1), at("a", 3)},
		{at("a", 0), at("a", 1), at("b", 3), at("a", 2)}, {at("a", 0), at("a", 1), at("b", 3), at("b", 2)}, {at("a", 0), at("a", 1), at("b", 3), at("c", 0)},
		{at("a", 0), at("a", 1), at("b", 3), zeros(32)}, {at("a", 0), at("a", 1), at("b", 3), strings.Repeat("\xff", 32)}, {at("a", 0), at("a", 1), zeros(32)},
		{plainEntry(suite.Real("key"), "a", plainPosting{0, 5, false}), at("a", 1), at("b", 3)},
	} {
		wantNoRead(t, s, words+tail(l...), api.ErrForm)
	}
	wantNoRead(t, s, num(0)+tail(at("a", 0)), api.ErrForm)
	wantNoRead(t, s, num(1)+head("a", 0, 0)+tail(at("a", 0)), api.ErrForm)
	wantNoRead(t, s, num(1)+head("a", 1, 1)+tail(at("a", 0)), api.ErrForm)
}

// TestReadBytes: what is stored under a label is twice the number of a text, or that and 1.
func TestReadBytes(t *testing.T) {
	for _, s := range suites() {
		for _, k := range []struct {
			v, id   int
			removes bool
		}{{0, 0, false}, {1, 0, true}, {2, 1, false}, {3, 1, true}, {2 * most, most, false}, {2*most + 1, most, true}, {2*most - 1, most - 1, true}} {
			x := wantRead(t, s[0], num(1)+head("a", 2, 0)+tail(entry(s[0], "a", 0, num(2*k.id)+zeros(8)), entry(s[0], "a", 1, num(k.v)+zeros(8))))
			if k.removes {
				wantFind(t, x, []string{"a"})
				want(t, "Fresh", x.Fresh("a"), 2)
			} else {
				wantFind(t, x, []string{"a"}, k.id)
				want(t, "Fresh", x.Fresh("a"), 1)
			}
		}
	}
}

// TestReadAnyBytes: only the labels tell which postings there are, so that any bytes are read behind them; P16.3 and P16.4 hold for these too.
func TestReadAnyBytes(t *testing.T) {
	for _, s := range suites() {
		for _, bytes := range []string{
			num(2*most+2) + zeros(8), num(2*most+3) + zeros(8), num(math.MaxInt-1) + zeros(8), num(math.MaxInt) + zeros(8),
			"\x80" + zeros(15), strings.Repeat("\xff", 16), num(2) + zeros(7) + "\x01", num(2) + "\x80" + zeros(7), num(0) + num(1),
		} {
			x := wantRead(t, s[0], num(1)+head("a", 2, 0)+tail(entry(s[0], "a", 0, num(8)+zeros(8)), entry(s[0], "a", 1, bytes)))
			ids := x.Find("a")
			if !slices.Contains(ids, 4) {
				t.Errorf("%x: got %v", bytes, ids)
			}
			want(t, "Fresh", x.Fresh("a"), 2-len(ids))
			wantFind(t, x, []string{"a"}, ids...)
			wantRead(t, s[0], x.Pack())
		}
	}
}

// TestReadWords: they are words, and ascend. That is checked before what follows them is read.
func TestReadWords(t *testing.T) {
	s := suite.Real("a key")
	for _, w := range []string{"0", "9", "a", "z", "cat", "abcdefghijklmno", "abcdefghijklmnop"} {
		x := wantRead(t, s, num(1)+head(w, 0, 0)+num(0))
		wantList(t, "Words", x.Words(), w)
		wantNoRead(t, s, num(2)+head(w, 0, 0)+word(w), api.ErrForm)
		wantNoRead(t, s, num(2)+head(w, 0, 0)+head(w, 0, 0)+num(0), api.ErrForm)
		wantNoRead(t, s, num(2)+head(w, 0, 0), api.ErrEnd)
	}
	for _, w := range []string{"", "A", "Cat", "a b", " a", "a ", "\x00a", "a\x00b", "a" + zeros(14) + "b", "\xff", "caf\u00e9", "abcdefghijklmnoP", "abcdefghijklmno\xff", zeros(15) + "a", "a\x01", zeros(16)} {
		wantNoRead(t, s, num(1)+word(w), api.ErrForm)
		wantNoRead(t, s, num(1)+word(w)+num(5), api.ErrForm)
		wantNoRead(t, s, num(1)+head(w, 0, 0)+num(0), api.ErrForm)
		wantNoRead(t, s, num(1)+word(w)[:15], api.ErrEnd)
		wantNoRead(t, s, num(2)+head("a", 0, 0)+head(w, 0, 0)+num(0), api.ErrForm)
	}
	wantRead(t, s, num(4)+head("9", 0, 0)+head("a", 0, 0)+head("a0", 0, 0)+head("b", 0, 0)+num(0))
	for _, l := range [][]string{{"b", "a"}, {"a", "9"}, {"aa", "a"}, {"abcdefghijklmnop", "abcdefghijklmno"}, {"a", "c", "b"}} {
		packed := num(len(l))
		for _, w := range l[:len(l)-1] {
			packed += head(w, 0, 0)
		}
		wantNoRead(t, s, packed+word(l[len(l)-1]), api.ErrForm)
		wantNoRead(t, s, packed+word(l[len(l)-1])[:10], api.ErrEnd)
	}
}

// TestReadNext: the next n of a word is not less than its first one, nor greater than 2^40.
func TestReadNext(t *testing.T) {
	s := suite.Real("a key")
	at := func(n int) string { return plainEntry(s, "a", plainPosting{n, 5, false}) }
	for _, n := range []int{0, 1, 255, 1 << 32, most - 1, most} {
		x := wantRead(t, s, num(1)+head("a", n, n)+num(0))
		wantFind(t, x, []string{"a"})
		want(t, "Len", x.Len(), 0)
		if n > 0 {
			wantFind(t, wantRead(t, s, num(1)+head("a", n, n-1)+tail(at(n-1))), []string{"a"}, 5)
			wantNoRead(t, s, num(1)+head("a", n, n-1)+num(0), api.ErrForm)
		}
	}
	for _, k := range []struct{ next, first int }{
		{0, 1}, {1, 2}, {5, 6}, {0, most}, {most - 1, most}, {most, most + 1}, {most, math.MaxInt}, {0, math.MaxInt},
		{most + 1, most + 1}, {most + 1, most}, {most + 1, 0}, {math.MaxInt, math.MaxInt}, {math.MaxInt, 0}, {2 * most, 5},
	} {
		wantNoRead(t, s, num(1)+head("a", k.next, k.first)+num(0), api.ErrForm)
		wantNoRead(t, s, num(1)+word("a")+num(k.next)+num(k.first), api.ErrForm)
		wantNoRead(t, s, num(1)+word("a")+num(k.next)+num(k.first)+num(math.MaxInt), api.ErrForm)
	}
	wantNoRead(t, s, num(1)+word("a")+num(5)+zeros(7), api.ErrEnd)
	wantNoRead(t, s, num(1)+word("a")+zeros(7), api.ErrEnd)
}

// TestReadRange: a word says that it has very many postings, and they are not there.
func TestReadRange(t *testing.T) {
	for _, s := range suites() {
		at := func(n int) string { return plainEntry(s[0], "a", plainPosting{n, 5, false}) }
		wantNoRead(t, s[0], num(1)+head("a", most, 0)+num(0), api.ErrForm)
		wantNoRead(t, s[0], num(1)+head("a", most, 0)+tail(at(0), at(1), at(2)), api.ErrForm)
		wantNoRead(t, s[0], num(1)+head("a", most, 1, 1, 2, 3, most-1)+tail(at(4)), api.ErrForm)
		packed := num(26)
		for i := range 26 {
			packed += head(string([]byte{'a' + byte(i)}), most, 0)
		}
		wantNoRead(t, s[0], packed+tail(at(0), at(1)), api.ErrForm)
		wantNoRead(t, s[0], packed+num(0), api.ErrForm)
	}
}

// TestReadSkippedWrong: they are from the first n on, less than the next one, and ascend. That is checked before what follows is read.
func TestReadSkippedWrong(t *testing.T) {
	s := suite.Real("a key")
	for _, k := range []struct {
		next, first int
		skipped     []int
	}{
		{9, 5, []int{4}}, {9, 5, []int{9}}, {9, 5, []int{10}}, {9, 5, []int{0}}, {9, 5, []int{math.MaxInt}}, {5, 5, []int{5}}, {0, 0, []int{0}},
		{9, 5, []int{5, 5}}, {9, 5, []int{6, 5}}, {9, 5, []int{8, 8}}, {9, 5, []int{5, 6, 7, 8, 9}}, {9, 5, []int{5, 7, 6}}, {9, 5, []int{8, 4}}, {9, 5, []int{5, 4}},
	} {
		packed := num(1) + head("a", k.next, k.first, k.skipped...)
		wantNoRead(t, s, packed, api.ErrForm)
		wantNoRead(t, s, packed+num(0), api.ErrForm)
		wantNoRead(t, s, packed[:len(packed)-1], api.ErrEnd)
	}
	wantRead(t, s, num(1)+head("a", 9, 5, 5, 6, 7, 8)+num(0))
	more := strings.Replace(head("a", 9, 5, 5, 6, 7, 8), num(4), num(5), 1)
	wantNoRead(t, s, num(1)+more, api.ErrEnd)
	wantNoRead(t, s, num(1)+more+num(9), api.ErrForm)
	wantNoRead(t, s, num(1)+more+num(8), api.ErrForm)
}

// TestReadLabels: they ascend. That is checked before what follows them is read.
func TestReadLabels(t *testing.T) {
	s := suite.Ideal("")
	x := index.New(s)
	x.Add(5, "a", "a", "a")
	packed := x.Pack()
	begin, entries := packed[:len(packed)-96], packed[len(packed)-96:]
	one, two, three := entries[:32], entries[32:64], entries[64:]
	want(t, "the first label", one[:16], zeros(16))
	wantRead(t, s, begin+one+two+three)
	for _, l := range []string{one + three + two, two + one + three, three + two + one, one + one + two, one + two + two, one + two + two[:16] + three[16:]} {
		wantNoRead(t, s, begin+l, api.ErrForm)
	}
	wantNoRead(t, s, begin+two+one[:16], api.ErrForm)
	wantNoRead(t, s, begin+two+two[:16], api.ErrForm)
	wantNoRead(t, s, begin+one+one[:16], api.ErrForm)
	wantNoRead(t, s, begin+one+three+two[:16], api.ErrForm)
	wantNoRead(t, s, begin+two+one[:15], api.ErrEnd)
	wantNoRead(t, s, begin+one+two[:16], api.ErrEnd)
	wantNoRead(t, s, begin+one+two+three[:31], api.ErrEnd)
	wantNoRead(t, s, begin, api.ErrEnd)
	wantNoRead(t, s, begin[:len(begin)-8]+num(4)+entries, api.ErrEnd)
	wantNoRead(t, s, begin[:len(begin)-8]+num(2)+entries, api.ErrForm)
	wantNoRead(t, s, begin[:len(begin)-8]+num(2)+entries[:64], api.ErrForm)
}

// TestReadNumbers: those of 2^63 and more are none, and those that say how much follows may be far too great.
func TestReadNumbers(t *testing.T) {
	s := suite.Real("a key")
	for _, begin := range []string{
		"", num(1) + word("a"), num(1) + word("a") + num(7), num(1) + word("a") + num(7) + num(2),
		num(1) + word("a") + num(7) + num(2) + num(1), num(0), num(1) + head("a", 0, 0),
	} {
		for _, great := range []string{"\x80" + zeros(7), strings.Repeat("\xff", 8), "\x80" + zeros(6) + "\x01"} {
			wantNoRead(t, s, begin+great, api.ErrForm)
			wantNoRead(t, s, begin+great+zeros(100), api.ErrForm)
			wantNoRead(t, s, begin+great[:7], api.ErrEnd)
		}
	}
	for _, begin := range []string{"", num(1) + word("a") + num(7) + num(2), num(0), num(1) + head("a", 0, 0)} {
		for _, n := range []int{1, 2, 1 << 20, 1 << 32, most, math.MaxInt - 1, math.MaxInt} {
			wantNoRead(t, s, begin+num(n), api.ErrEnd)
		}
	}
}

// TestReadFirstError: the first one from the left, whatever follows it.
func TestReadFirstError(t *testing.T) {
	s := suite.Real("a key")
	wantNoRead(t, s, num(3)+head("a", 0, 0)+word("A")+zeros(3), api.ErrForm)
	wantNoRead(t, s, num(3)+head("a", 0, 0)+head("b", 1, 2)+zeros(3), api.ErrForm)
	wantNoRead(t, s, num(3)+head("a", 9, 0)+head("b", 9, 0)+zeros(3), api.ErrEnd)
	wantNoRead(t, s, num(1)+head("a", 9, 0)+num(1)+zeros(31), api.ErrEnd)
	wantNoRead(t, s, num(1)+head("a", 9, 0)+num(2)+zeros(47), api.ErrEnd)
	wantNoRead(t, s, num(1)+head("a", 9, 0)+num(2)+zeros(48), api.ErrForm)
	wantNoRead(t, s, "", api.ErrEnd)
	wantNoRead(t, s, "short", api.ErrEnd)
	wantNoRead(t, s, zeros(8), api.ErrEnd)
	wantNoRead(t, s, zeros(15), api.ErrEnd)
	wantNoRead(t, s, zeros(17), api.ErrForm)
	wantNoRead(t, s, strings.Repeat("\xff", 5), api.ErrEnd)
	wantNoRead(t, s, strings.Repeat("\xff", 100), api.ErrForm)
}

// TestReadSuite: an ideal suite that does not know the labels does not accept them, and what was read is bound to its suite.
func TestReadSuite(t *testing.T) {
	s := suite.Ideal("a tape")
	x, packed := small(s)
	wantNoRead(t, suite.Ideal("a tape"), packed, api.ErrForm)
	wantNoRead(t, suite.Ideal("tape"), packed, api.ErrForm)
	wantNoRead(t, suite.Real("a tape"), packed, api.ErrForm)
	c := s.Clone()
	y := wantRead(t, c, packed)
	drawn := s.Drawn()
	y.Add(5, "cat")
	want(t, "Drawn of the suite", s.Drawn(), drawn)
	want(t, "Drawn of its copy", c.Drawn(), drawn+16)
	x.Add(5, "cat")
	want(t, "Pack", y.Pack(), x.Pack())
}

// TestReadAlike: without a map's order to be seen, an ideal suite is asked for the same labels each time.
func TestReadAlike(t *testing.T) {
	_, packed := small(suite.Real("a key"))
	for _, other := range []string{packed, packed + "x", packed[:60]} {
		var drawn []int
		var next [][16]byte
		for range 20 {
			s := suite.Ideal("a tape of some bytes")
			index.Read(s, other)
			drawn = append(drawn, s.Drawn())
			next = append(next, s.Label("a", 0, 0), s.Label("cat", 2, 0), s.Label("dog", 1, 0))
		}
		want(t, "Drawn", len(slices.Compact(drawn)), 1)
		for i := range next {
			want(t, "a label", next[i], next[i%3])
		}
	}
}
