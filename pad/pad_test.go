package pad_test

import (
	"encoding/binary"
	"math"
	"slices"
	"strings"
	"testing"

	"sealwax/pad"
)

const most = 7672 // bytes of the longest text

// someBytes returns n bytes that go through all values, none of them zero at the end.
func someBytes(n, seed int) string {
	out := make([]byte, n)
	for i := range out {
		out[i] = byte(i*7 + i/256 + seed*17)
	}
	if n > 0 && out[n-1] == 0 {
		out[n-1] = 1
	}
	return string(out)
}

func zeros(n int) string { return strings.Repeat("\x00", n) }

func number(n uint64) string { return string(binary.BigEndian.AppendUint64(nil, n)) }

// cut returns the pages of bytes, written apart from the program.
func cut(s string) []string {
	var out []string
	for ; len(s) > 240; s = s[240:] {
		out = append(out, s[:240])
	}
	return append(out, s)
}

// filled returns that many pages that begin with these bytes.
func filled(s string, pages int) []string { return cut(s + zeros(240*pages-len(s))) }

// plainClass is written apart from the program, as ranges.
func plainClass(n int) int {
	switch {
	case n < 0:
		return 0
	case n <= 232:
		return 1
	case n <= 472:
		return 2
	case n <= 952:
		return 4
	case n <= 1912:
		return 8
	case n <= 3832:
		return 16
	case n <= 7672:
		return 32
	}
	return 0
}

func plainPack(s string) []string {
	return filled(number(uint64(len(s)))+s, plainClass(len(s)))
}

func wantText(t *testing.T, what, wanted string, l ...string) {
	t.Helper()
	if s, is := pad.Unpack(l...); s != wanted || !is {
		t.Errorf("%s: got %v and %d bytes, want %d", what, is, len(s), len(wanted))
	}
}

func wantNone(t *testing.T, what string, l ...string) {
	t.Helper()
	if s, is := pad.Unpack(l...); s != "" || is {
		t.Errorf("%s: got %v and %d bytes", what, is, len(s))
	}
}

func TestClass(t *testing.T) {
	for n := -300; n < 9000; n++ {
		wanted := plainClass(n)
		if k, is := pad.Class(n); k != wanted || is != (wanted > 0) {
			t.Errorf("Class(%d): got %d %v, want %d", n, k, is, wanted)
		}
	}
	for _, n := range []int{math.MinInt, math.MinInt + 1, math.MinInt + 8, -1 << 32, 1 << 20, 1 << 31, 1 << 32, 1<<32 + 1, math.MaxInt - 8, math.MaxInt - 7, math.MaxInt} {
		if k, is := pad.Class(n); k != 0 || is {
			t.Errorf("Class(%d): got %d %v", n, k, is)
		}
	}
	if pad.Size != 240 {
		t.Errorf("Size is %d", pad.Size)
	}
}

// TestEveryLength: P12.1 and P12.2, the pages byte by byte, and back.
func TestEveryLength(t *testing.T) {
	for n := range most + 1 {
		s := someBytes(n, n)
		l, is := pad.Pack(s)
		if !is || !slices.Equal(l, plainPack(s)) {
			t.Fatalf("%d bytes: %v, %d pages", n, is, len(l))
		}
		wantText(t, "what was packed", s, l...)
	}
	for _, n := range []int{most + 1, most + 2, 7680, 7681, 10000, 1 << 20} {
		if l, is := pad.Pack(someBytes(n, n)); len(l) != 0 || is {
			t.Errorf("%d bytes: %v, %d pages", n, is, len(l))
		}
	}
}

// TestTextsOfZeroBytes: they are not taken for what follows a text.
func TestTextsOfZeroBytes(t *testing.T) {
	for _, n := range []int{0, 1, 2, 7, 8, 231, 232, 233, 240, 472, 473, 952, 953, 3833, most} {
		l, is := pad.Pack(zeros(n))
		if !is || !slices.Equal(l, plainPack(zeros(n))) {
			t.Errorf("%d bytes: %v, %d pages", n, is, len(l))
		}
		wantText(t, "zero bytes", zeros(n), l...)
		wantText(t, "a 1 and zero bytes", "\x01"+zeros(max(0, n-1)), plainPack("\x01"+zeros(max(0, n-1)))...)
	}
	wantText(t, "an empty text", "", zeros(240))
}

func TestNoPages(t *testing.T) {
	wantNone(t, "no pages")
	wantNone(t, "nil", []string(nil)...)
	wantNone(t, "an empty list", []string{}...)
	for n := range 40 {
		wantNone(t, "empty pages", make([]string, n)...)
	}
}

// TestNumberOfPages: a text has those of its Class, not more and not fewer.
func TestNumberOfPages(t *testing.T) {
	for _, n := range []int{0, 1, 232, 233, 400, 472, 473, 700, 952, 953, 1912, 1913, 3832, 3833, 7000, most} {
		s := someBytes(n, n)
		bytes := number(uint64(n)) + s
		for pages := 1; pages < 70; pages++ {
			if pages == plainClass(n) {
				wantText(t, "its Class", s, filled(bytes, pages)...)
			} else {
				l := filled(bytes, max(pages, plainClass(n)))
				wantNone(t, "another number of pages", append(l, zeros(240))[:pages]...)
				if len(l) > 2 { // one page alone may be that of an empty text
					wantNone(t, "without the first page", l[1:]...)
				}
			}
		}
	}
	l := filled(number(10)+someBytes(10, 1), 3)
	wantNone(t, "three pages", l...)
	wantNone(t, "very many pages", slices.Repeat([]string{zeros(240)}, 1<<16)...)
}

// TestSizeOfPages: each page has 240 bytes, also if all bytes together are right.
func TestSizeOfPages(t *testing.T) {
	for _, n := range []int{0, 100, 232, 233, 472, 900, 1900, 3800, most} {
		s := someBytes(n, n)
		whole := plainPack(s)
		for i := range whole {
			for what, page := range map[string]string{
				"no bytes":     "",
				"a byte less":  whole[i][:239],
				"a byte more":  whole[i] + "\x00",
				"16 more":      whole[i] + zeros(16),
				"half a page":  whole[i][:120],
				"two pages":    whole[i] + whole[i],
				"another byte": "\x00" + whole[i],
			} {
				l := slices.Clone(whole)
				l[i] = page
				wantNone(t, what, l...)
			}
			for j := range i {
				l := slices.Clone(whole)
				l[j], l[j+1] = l[j]+l[j+1][:1], l[j+1][1:]
				wantNone(t, "a byte moved to the left", l...)
				l = slices.Clone(whole)
				l[j], l[j+1] = l[j][:239], l[j][239:]+l[j+1]
				wantNone(t, "a byte moved to the right", l...)
			}
		}
		if len(whole) > 1 {
			wantNone(t, "all in one", strings.Join(whole, ""))
			wantNone(t, "an empty page", append([]string{""}, whole[:len(whole)-1]...)...)
		}
		wantNone(t, "an empty page more", append(slices.Clone(whole), "")...)
	}
}

// TestLengths: another number before a text is accepted only if what follows that text is zero bytes, and it has that Class.
func TestLengths(t *testing.T) {
	for _, n := range []int{0, 5, 232, 300, 472, 900, most} {
		s := someBytes(n, n)
		pages := plainClass(n)
		for says := range 240*pages + 20 {
			l := filled(number(uint64(says))+s, pages)
			if says >= n && plainClass(says) == pages {
				wantText(t, "a text that ends with zero bytes", s+zeros(says-n), l...)
			} else {
				wantNone(t, "another length", l...)
			}
		}
		for _, says := range []uint64{1 << 16, 1 << 20, 1 << 31, 1 << 32, 1<<32 + uint64(n), 1 << 56, 1<<62 + uint64(n), 1<<63 - 8, 1<<63 - 1, 1 << 63, 1<<63 + uint64(n), 1<<64 - 8, 1<<64 - 1} {
			wantNone(t, "a great length", filled(number(says)+s, pages)...)
		}
		if n > 0 {
			wantNone(t, "a backward length", filled(string(binary.LittleEndian.AppendUint64(nil, uint64(n)))+s, pages)...)
		}
	}
}

// TestEveryBit: P12.2, with another bit they are the pages of another text, or of none.
func TestEveryBit(t *testing.T) {
	for _, n := range []int{0, 1, 100, 231, 232, 233, 300, 471, 472, 600} {
		whole := plainPack(someBytes(n, n))
		for i := range whole {
			for bit := range 240 * 8 {
				b := []byte(whole[i])
				b[bit/8] ^= 1 << (bit % 8)
				l := slices.Clone(whole)
				l[i] = string(b)
				at := 240*i + bit/8
				if at >= 8 && at < 8+n {
					text := strings.Join(l, "")[8 : 8+n]
					wantText(t, "another text", text, l...)
				} else if at >= 8 {
					wantNone(t, "not zero bytes", l...)
				} else if s, is := pad.Unpack(l...); is && !slices.Equal(plainPack(s), l) {
					t.Errorf("%d bytes, bit %d: accepted as %d bytes", n, bit, len(s))
				}
			}
		}
	}
}

// TestOrder: pages in another order are another text's, or none's.
func TestOrder(t *testing.T) {
	l := plainPack(someBytes(900, 3))
	for i := range l {
		for j := range l {
			x := slices.Clone(l)
			x[i], x[j] = x[j], x[i]
			s, is := pad.Unpack(x...)
			if i == j && !is || s == someBytes(900, 3) != (i == j) || is && !slices.Equal(plainPack(s), x) {
				t.Errorf("%d and %d: got %v and %d bytes", i, j, is, len(s))
			}
		}
	}
}

// TestListsAreLeftAlone: they are not changed, nor kept, nor is what lies behind them.
func TestListsAreLeftAlone(t *testing.T) {
	s := someBytes(300, 1)
	a, _ := pad.Pack(s)
	b, _ := pad.Pack(s)
	l := append(slices.Clone(a), "behind", "it")
	wantText(t, "a part of a list", s, l[:2]...)
	if !slices.Equal(l, append(plainPack(s), "behind", "it")) {
		t.Error("a list was changed")
	}
	clear(a)
	_ = append(a, "x")
	if !slices.Equal(b, plainPack(s)) {
		t.Error("two results share memory")
	}
	wantText(t, "packed before", s, b...)
}
