package suite_test

import (
	"encoding/binary"
	"encoding/hex"
	"math"
	"slices"
	"strings"
	"testing"

	"sealwax/sha"
	"sealwax/suite"
)

const most = 1 << 40

// edges are numbers as they are given and as they count where they are limited to 0 to 2^40.
var edges = []struct{ given, counts int }{
	{0, 0}, {1, 1}, {255, 255}, {256, 256}, {1<<32 + 7, 1<<32 + 7}, {most - 1, most - 1}, {most, most},
	{most + 1, most}, {1 << 41, most}, {1 << 48, most}, {1<<48 + 1, most}, {math.MaxInt, most},
	{-1, 0}, {-256, 0}, {-most, 0}, {math.MinInt, 0},
}

// allBytes returns n bytes that go through all values.
func allBytes(n int) string {
	out := make([]byte, n)
	for i := range out {
		out[i] = byte(i*5 + i/256 + 3)
	}
	return string(out)
}

// number returns the eight bytes of a number, written apart from the program.
func number(n int) string {
	return string(binary.BigEndian.AppendUint64(nil, uint64(n)))
}

func asHex(s string) string { return hex.EncodeToString([]byte(s)) }

// both returns a real suite and an ideal one, by name.
func both() map[string]*suite.Suite {
	return map[string]*suite.Suite{"real": suite.Real("a key"), "ideal": suite.Ideal(allBytes(1009))}
}

func wantOpen(t *testing.T, s *suite.Suite, at suite.At, ad, c, plain string) {
	t.Helper()
	if got, ok := s.Open(at, ad, c); got != plain || !ok {
		t.Errorf("%v: got %q, %v, want %q", at, got, ok, plain)
	}
}

func wantShut(t *testing.T, s *suite.Suite, at suite.At, ad, c string) {
	t.Helper()
	if got, ok := s.Open(at, ad, c); got != "" || ok {
		t.Errorf("%v with %q and %d bytes: got %q, %v", at, ad, len(c), got, ok)
	}
}

// TestOpenWhatWasSealed: P8.2, texts of every length and any ad.
func TestOpenWhatWasSealed(t *testing.T) {
	for _, s := range both() {
		var sealed []string
		const count = 200
		text := func(i int) (suite.At, string, string) {
			return suite.At{Boot: i / 20, Seq: i % 20}, allBytes(i % 7), allBytes(i)
		}
		for i := range count {
			at, ad, plain := text(i)
			c := s.Seal(at, ad, plain)
			if len(c) != len(plain)+16 {
				t.Errorf("%d bytes became %d", len(plain), len(c))
			}
			sealed = append(sealed, c)
		}
		for i, c := range sealed {
			at, ad, plain := text(i)
			wantOpen(t, s, at, ad, c, plain)
			wantOpen(t, s, at, ad, c, plain)
		}
	}
}

// TestOpenNothingElse: another place, another ad, or other bytes.
func TestOpenNothingElse(t *testing.T) {
	for _, s := range both() {
		at := suite.At{Boot: 3, Seq: 1 << 39}
		wantShut(t, s, at, "ad", "")
		wantShut(t, s, at, "", "")
		wantShut(t, s, at, "ad", allBytes(21))
		c := s.Seal(at, "ad", "plain")
		for _, other := range []suite.At{{}, {Boot: 3}, {Seq: 1 << 39}, {Boot: 1 << 39, Seq: 3}, {Boot: 4, Seq: 1 << 39}, {Boot: 3, Seq: 1<<39 + 1}, {Boot: 3, Seq: most}, {Boot: -1, Seq: -1}, {Boot: 3 + 1<<48, Seq: 1 << 39}} {
			wantShut(t, s, other, "ad", c)
		}
		for _, ad := range []string{"", "a", "ad\x00", "Ad", "da", "plain"} {
			wantShut(t, s, at, ad, c)
		}
		for n := range c {
			wantShut(t, s, at, "ad", c[:n])
			wantShut(t, s, at, "ad", c[n+1:])
		}
		wantShut(t, s, at, "ad", c+"\x00")
		for bit := range 8 * len(c) {
			changed := []byte(c)
			changed[bit/8] ^= 1 << (bit % 8)
			wantShut(t, s, at, "ad", string(changed))
		}
		wantOpen(t, s, at, "ad", c, "plain")
	}
}

// TestSealedNothing: no bytes are a text too.
func TestSealedNothing(t *testing.T) {
	for _, s := range both() {
		c := s.Seal(suite.At{}, "", "")
		if len(c) != 16 {
			t.Errorf("%d bytes", len(c))
		}
		wantOpen(t, s, suite.At{}, "", c, "")
		wantShut(t, s, suite.At{}, "", "")
		wantShut(t, s, suite.At{Seq: 1}, "", c)
	}
}

// TestPlacesAreLimited: a number beyond the range is one with its end.
func TestPlacesAreLimited(t *testing.T) {
	for name := range both() {
		for _, x := range edges {
			for _, y := range edges {
				s := both()[name]
				at := suite.At{Boot: x.given, Seq: y.given}
				c := s.Seal(at, "ad", "plain")
				wantOpen(t, s, at, "ad", c, "plain")
				wantOpen(t, s, suite.At{Boot: x.counts, Seq: y.counts}, "ad", c, "plain")
				if want := both()[name].Seal(suite.At{Boot: x.counts, Seq: y.counts}, "ad", "plain"); c != want {
					t.Errorf("%s, %v: sealed in another way", name, at)
				}
				for _, z := range edges {
					if z.counts != x.counts {
						wantShut(t, s, suite.At{Boot: z.given, Seq: y.given}, "ad", c)
					}
					if z.counts != y.counts {
						wantShut(t, s, suite.At{Boot: x.given, Seq: z.given}, "ad", c)
					}
				}
			}
		}
	}
}

// TestPlacesStay: what is passed is not changed, and can be a key of a map.
func TestPlacesStay(t *testing.T) {
	at := suite.At{Boot: -1, Seq: math.MaxInt}
	seen := map[suite.At]int{at: 1}
	for _, s := range both() {
		s.Seal(at, "", "")
	}
	if seen[at] != 1 || at != (suite.At{Boot: -1, Seq: math.MaxInt}) {
		t.Error("a place has changed")
	}
}

// TestLabels: of each three things one, however often it is asked for, and negative numbers count as 0.
func TestLabels(t *testing.T) {
	for name, s := range both() {
		seen := map[[16]byte]bool{}
		words := []string{"", "a", "b", "ab", "a\x00", allBytes(100)}
		numbers := []int{0, 1, 2, 255, 256, most, math.MaxInt}
		for _, word := range words {
			for _, n := range numbers {
				for _, part := range numbers {
					x := s.Label(word, n, part)
					if seen[x] {
						t.Errorf("%s: %q %d %d has the label of another one", name, word, n, part)
					}
					seen[x] = true
					if x != s.Label(word, n, part) {
						t.Errorf("%s: %q %d %d has two labels", name, word, n, part)
					}
				}
				for _, less := range []int{-1, -most, math.MinInt} {
					if s.Label(word, n, less) != s.Label(word, n, 0) || s.Label(word, less, n) != s.Label(word, 0, n) || s.Label(word, less, less) != s.Label(word, 0, 0) {
						t.Errorf("%s: %q %d and %d: a negative number is not 0", name, word, n, less)
					}
				}
			}
		}
		if len(seen) != len(words)*len(numbers)*len(numbers) {
			t.Errorf("%s: %d labels", name, len(seen))
		}
	}
}

// TestNegativeFirst: it counts as 0 also if it is asked for first.
func TestNegativeFirst(t *testing.T) {
	for name, s := range both() {
		x := s.Label("word", -5, math.MinInt)
		if x != s.Label("word", 0, 0) || x == s.Label("word", 5, 0) || x == s.Label("word", 0, 1) {
			t.Errorf("%s: other labels", name)
		}
	}
}

// TestMacs: texts in any parts, and no other texts.
func TestMacs(t *testing.T) {
	for name, s := range both() {
		for _, l := range [][]string{nil, {""}, {"", ""}, {"ab"}, {"a", "b"}, {"", "a", "", "b"}, {allBytes(300), "x"}} {
			x := s.Mac(l...)
			whole := strings.Join(l, "")
			if !s.Check(x, l...) || !s.Check(x, whole) || !s.Check(x, strings.Split(whole, "")...) {
				t.Errorf("%s: %q is not accepted", name, l)
			}
			for _, other := range [][]string{{whole, "x"}, {"x", whole}, {whole + "\x00"}, {"b", "a"}, {"a"}} {
				if s.Check(x, other...) {
					t.Errorf("%s: the Mac of %q is accepted for %q", name, l, other)
				}
			}
			if whole != "" && (s.Check(x) || s.Check(x, "")) {
				t.Errorf("%s: the Mac of %q is accepted for nothing", name, l)
			}
			for bit := range 256 {
				y := x
				y[bit/8] ^= 1 << (bit % 8)
				if s.Check(y, l...) {
					t.Errorf("%s: %q with another bit %d is accepted", name, l, bit)
				}
			}
		}
	}
}

// TestNoMacYet: nothing is accepted that was not made.
func TestNoMacYet(t *testing.T) {
	for name, s := range both() {
		for _, x := range []sha.Sum{{}, {1}, sha.Of(), sha.Of("ab")} {
			if s.Check(x) || s.Check(x, "") || s.Check(x, "ab") {
				t.Errorf("%s: %s is accepted", name, x.Hex())
			}
		}
	}
}

// TestListsAreLeftAlone: they are not changed, nor kept, nor is what lies behind them.
func TestListsAreLeftAlone(t *testing.T) {
	for name, s := range both() {
		l := []string{"a", "bc", "d", "e"}
		x := s.Mac(l[:2]...)
		s.Check(x, l[:3]...)
		if !slices.Equal(l, []string{"a", "bc", "d", "e"}) {
			t.Errorf("%s: a list was changed", name)
		}
		l[0], l[1] = "x", "yz"
		if !s.Check(x, "abc") || s.Check(x, l[:2]...) {
			t.Errorf("%s: a list was kept", name)
		}
	}
}

// TestCloneGoesOnAlike: a copy does what the suite would do.
func TestCloneGoesOnAlike(t *testing.T) {
	for name, s := range both() {
		at := suite.At{Boot: 1, Seq: 2}
		c, x, m := s.Seal(at, "ad", "plain"), s.Label("word", 1, 2), s.Mac("text")
		d := s.Clone()
		if d == s {
			t.Fatalf("%s: the same suite", name)
		}
		wantOpen(t, d, at, "ad", c, "plain")
		if d.Label("word", 1, 2) != x || !d.Check(m, "text") || d.Drawn() != s.Drawn() {
			t.Errorf("%s: the copy has forgotten", name)
		}
		for range 3 {
			if s.Seal(at, "b", "other") != d.Seal(at, "b", "other") || s.Label("b", 0, 0) != d.Label("b", 0, 0) || s.Mac("b") != d.Mac("b") || s.Drawn() != d.Drawn() {
				t.Errorf("%s: the copy goes on in another way", name)
			}
		}
	}
}
