package names_test

import (
	"math"
	"slices"
	"strings"
	"testing"

	"sealwax/api"
	"sealwax/names"
	"sealwax/wire"
)

// TestReadParts: every part of an encoding ends too early.
func TestReadParts(t *testing.T) {
	for _, k := range []int{0, 1, 3, 16} {
		packed := of(t, letters(k)...).Pack()
		for n := range packed {
			wantNoRead(t, packed[:n], api.ErrEnd)
		}
		wantRead(t, packed)
	}
}

// TestReadEveryBit: each one changed, against a reader that is written apart.
func TestReadEveryBit(t *testing.T) {
	n := of(t, "a", "b/c", "INBOX", "z", strings.Repeat("y", 32))
	n.Delete("z")
	packed := n.Pack()
	fine := 0
	for bit := range 8 * len(packed) {
		changed := []byte(packed)
		changed[bit/8] ^= 0x80 >> (bit % 8)
		if size, e := plainRead(string(changed)); e != api.OK {
			wantNoRead(t, string(changed), e)
		} else {
			wantRead(t, string(changed[:size]))
			fine++
		}
	}
	if fine < 100 {
		t.Errorf("only %d are read: the test asks too little", fine)
	}
}

// TestReadNext: the next number is 1 to 2^40.
func TestReadNext(t *testing.T) {
	for _, next := range []int{1, 2, 255, 256, 1 << 32, most - 1, most} {
		n := wantRead(t, num(next)+num(0))
		want(t, "Next", n.Next(), next)
		wantCreate(t, n, "a", next, api.OK)
		want(t, "Next", n.Next(), next+1)
		wantCreate(t, n, "b", next+1, api.OK)
		wantOf(t, n, "a", next)
	}
	for _, next := range []int{0, most + 1, most + 2, 2 * most, math.MaxInt} {
		wantNoRead(t, num(next)+num(0), api.ErrForm)
		wantNoRead(t, num(next)+num(1)+entry("a", 1), api.ErrForm)
		wantNoRead(t, num(next)+num(16), api.ErrForm)
		wantNoRead(t, num(next)+num(17), api.ErrForm)
		wantNoRead(t, num(next), api.ErrEnd)
		wantNoRead(t, num(next)+zeros(7), api.ErrEnd)
	}
}

// TestReadCount: there are at most 16 names. That is checked before they are read, but not before their number is.
func TestReadCount(t *testing.T) {
	l := letters(18)
	packed := ""
	for i, name := range l {
		packed += entry(name, i+1)
	}
	for k := range 17 {
		n := wantRead(t, num(20)+num(k)+packed[:40*k])
		wantList(t, n, l[:k]...)
		if k > 0 {
			wantNoRead(t, num(20)+num(k)+packed[:40*k-1], api.ErrEnd)
			wantNoRead(t, num(20)+num(k), api.ErrEnd)
		}
	}
	for _, count := range []int{17, 18, 255, 256, 1 << 32, most, math.MaxInt - 1, math.MaxInt} {
		wantNoRead(t, num(20)+num(count), api.ErrForm)
		wantNoRead(t, num(20)+num(count)+packed, api.ErrForm)
	}
}

// TestReadName: they are names, extended with zero bytes alone. That is checked after their number was read.
func TestReadName(t *testing.T) {
	for _, name := range []string{"a", "Z", "0", "a/b", "..", strings.Repeat("a", 31), strings.Repeat("a", 32), strings.Repeat("a", 30) + "/b"} {
		n := wantRead(t, num(5)+num(1)+entry(name, 4))
		wantOf(t, n, name, 4)
	}
	for _, name := range []string{"", "/", "/a", "a/", "a//b", " a", "a ", "a b", "a\x00b", "\x00a", "a" + zeros(30) + "b", zeros(31) + "a", "\xff", "caf\u00e9", "a\x01", strings.Repeat("a", 31) + "/", strings.Repeat("a", 31) + "\xff", strings.Repeat("a", 31) + " "} {
		wantNoRead(t, num(5)+num(1)+entry(name, 4), api.ErrForm)
		wantNoRead(t, num(5)+num(2)+entry(name, 4), api.ErrForm)
		wantNoRead(t, num(5)+num(2)+entry("A", 3)+entry(name, 4), api.ErrForm)
		wantNoRead(t, num(5)+num(1)+entry(name, 4)[:39], api.ErrEnd)
		wantNoRead(t, num(5)+num(1)+entry(name, 4)[:32], api.ErrEnd)
		wantNoRead(t, num(5)+num(1)+entry(name, 4)[:31], api.ErrEnd)
	}
}

// TestReadOrder: names ascend, so that each is there once.
func TestReadOrder(t *testing.T) {
	all := func(l ...string) string {
		packed := num(9) + num(len(l))
		for i, name := range l {
			packed += entry(name, len(l)-i)
		}
		return packed
	}
	long := strings.Repeat("a", 31)
	for _, l := range [][]string{{"A", "a"}, {"a", "a-"}, {"a", "a/b", "a0", "aa"}, {long, long + "-", long + "a"}, {"-", ".", "0", "A", "_", "a"}} {
		n := wantRead(t, all(l...))
		wantList(t, n, l...)
		for i, name := range l {
			wantOf(t, n, name, len(l)-i)
		}
		for i := range l[1:] {
			same, turned := slices.Clone(l), slices.Clone(l)
			same[i+1] = same[i]
			turned[i], turned[i+1] = turned[i+1], turned[i]
			wantNoRead(t, all(same...), api.ErrForm)
			wantNoRead(t, all(turned...), api.ErrForm)
			short := all(turned...)[:16+40*(i+2)-1]
			wantNoRead(t, short, api.ErrEnd)
			wantNoRead(t, short+"\x80", api.ErrForm)
		}
	}
	wantNoRead(t, all("b", "c", "a"), api.ErrForm)
	wantNoRead(t, all("a", "b", "a"), api.ErrForm)
}

// TestReadNumber: a name's number is at least 1, less than the next one, and that of no other name (P17.2).
func TestReadNumber(t *testing.T) {
	for _, next := range []int{1, 2, 3, 5, 256, most} {
		for _, id := range []int{0, 1, 2, next - 1, next, next + 1, most - 1, most, most + 1, math.MaxInt} {
			packed := num(next) + num(1) + entry("a", id)
			if id >= 1 && id < next {
				wantOf(t, wantRead(t, packed), "a", id)
			} else {
				wantNoRead(t, packed, api.ErrForm)
			}
			wantNoRead(t, packed[:len(packed)-1], api.ErrEnd)
		}
	}
	for i := range 5 * 5 * 5 {
		a, b, c := i/25, i/5%5, i%5
		packed := num(5) + num(3) + entry("a", a) + entry("b", b) + entry("c", c)
		if a != b && a != c && b != c && a*b*c != 0 {
			n := wantRead(t, packed)
			wantOf(t, n, "a", a)
			wantOf(t, n, "b", b)
			wantOf(t, n, "c", c)
		} else {
			wantNoRead(t, packed, api.ErrForm)
		}
	}
	same := num(5) + num(3) + entry("a", 3) + entry("b", 3)
	wantNoRead(t, same, api.ErrForm)
	wantNoRead(t, same[:len(same)-1], api.ErrEnd)
}

// TestReadNumbers: those of 2^63 and more are none.
func TestReadNumbers(t *testing.T) {
	for _, begin := range []string{"", num(5), num(0), num(5) + num(1) + entry("a", 1)[:32], num(5) + num(1) + entry("a/", 1)[:32], num(5) + num(2) + entry("a", 1) + entry("b", 1)[:32]} {
		for _, great := range []string{"\x80" + zeros(7), strings.Repeat("\xff", 8), "\x80" + zeros(6) + "\x01"} {
			wantNoRead(t, begin+great, api.ErrForm)
			wantNoRead(t, begin+great+zeros(100), api.ErrForm)
			wantNoRead(t, begin+great[:7], api.ErrEnd)
		}
	}
}

// TestReadFirstError: the first one from the left, whatever follows it.
func TestReadFirstError(t *testing.T) {
	wantNoRead(t, "", api.ErrEnd)
	wantNoRead(t, "short", api.ErrEnd)
	wantNoRead(t, strings.Repeat("\xff", 7), api.ErrEnd)
	wantNoRead(t, strings.Repeat("\xff", 100), api.ErrForm)
	wantNoRead(t, zeros(15), api.ErrEnd)
	wantNoRead(t, zeros(16), api.ErrForm)
	wantNoRead(t, num(3)+num(3)+entry("a", 1)+entry("a", 2)+"x", api.ErrForm)
	wantNoRead(t, num(3)+num(3)+entry("a", 1)+entry("b", 2)+"x", api.ErrEnd)
	wantNoRead(t, num(3)+num(2)+entry("a", 3)+"x", api.ErrForm)
	wantNoRead(t, num(4)+num(2)+entry("a", 3)+"x", api.ErrEnd)
}

// TestReadFailed: a reader that has failed already gives its own error.
func TestReadFailed(t *testing.T) {
	for _, wanted := range []api.Errno{api.ErrForm, api.ErrEnd, api.ErrArg, api.ErrCrash, -1, 99} {
		in := wire.Of(num(1) + num(0))
		in.Fail(wanted)
		n, e := names.Read(in)
		if n != nil || e != wanted || in.Err() != wanted {
			t.Errorf("got %v, error %d, want error %d", n, e, wanted)
		}
	}
	n, e := names.Read(new(wire.In))
	if n != nil || e != api.ErrEnd {
		t.Errorf("a zero reader: got %v, error %d", n, e)
	}
}
