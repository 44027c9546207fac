package words_test

import (
	"slices"
	"strings"
	"testing"

	"sealwax/api"
	"sealwax/words"
)

func wantWords(t *testing.T, text string, wanted ...string) {
	t.Helper()
	if got := words.Of(text); !slices.Equal(got, wanted) {
		t.Errorf("%.80q: got %q, want %q", text, got, wanted)
	}
}

func wantClean(t *testing.T, l []string, wanted ...string) {
	t.Helper()
	if got, e := words.Clean(l...); e != api.OK || !slices.Equal(got, wanted) {
		t.Errorf("Clean %q: got %q, error %d, want %q", l, got, e, wanted)
	}
}

func wantNoClean(t *testing.T, l ...string) {
	t.Helper()
	if got, e := words.Clean(l...); e != api.ErrArg || len(got) != 0 {
		t.Errorf("Clean %q: got %q, error %d", l, got, e)
	}
}

// number returns the i-th of many words, which ascend.
func number(i int) string {
	return string([]byte{'a' + byte(i/26/26%26), 'a' + byte(i/26%26), 'a' + byte(i%26)})
}

// list returns the first n of these words.
func list(n int) []string {
	var out []string
	for i := range n {
		out = append(out, number(i))
	}
	return out
}

func TestExample(t *testing.T) {
	wantWords(t, "The 3 cats, the end", "3", "cats", "end", "the")
}

// TestOfSimple: P15.1, where words begin and end, and in which order they are.
func TestOfSimple(t *testing.T) {
	wantWords(t, "")
	wantWords(t, " ")
	wantWords(t, ".,;!\x00\n\t\xff")
	wantWords(t, "a", "a")
	wantWords(t, "0", "0")
	wantWords(t, " a ", "a")
	wantWords(t, "b a", "a", "b")
	wantWords(t, "b\x00a\n", "a", "b")
	wantWords(t, "..b..a..", "a", "b")
	wantWords(t, "a a a b a", "a", "b")
	wantWords(t, "ab a abc aa b", "a", "aa", "ab", "abc", "b")
	wantWords(t, "z 9 a 0 10 1", "0", "1", "10", "9", "a", "z")
	wantWords(t, "a1b2 1a2b", "1a2b", "a1b2")
	wantWords(t, "a-b_c'd", "a", "b", "c", "d")
	wantWords(t, "two cats", "cats", "two")
}

// TestOfEachByte: which bytes are parts of words, alone, between others and at the ends.
func TestOfEachByte(t *testing.T) {
	const small = "0123456789abcdefghijklmnopqrstuvwxyz"
	const capital = "ABCDEFGHIJKLMNOPQRSTUVWXYZ"
	for i := range 256 {
		b := string([]byte{byte(i)})
		part := ""
		switch {
		case strings.Contains(small, b):
			part = b
		case strings.Contains(capital, b):
			part = small[10+strings.Index(capital, b):][:1]
		}
		if words.Check(b) != (part == b) || words.Check("a"+b) != (part == b) || words.Check(b+"a") != (part == b) || words.Check("a"+b+"0") != (part == b) {
			t.Errorf("Check of %q", b)
		}
		if part == "" {
			wantWords(t, b)
			wantWords(t, "k"+b+"m", "k", "m")
			wantWords(t, b+"k"+b, "k")
			continue
		}
		wantWords(t, b, part)
		wantWords(t, "k"+b+"m", "k"+part+"m")
		wantWords(t, b+"k"+b, part+"k"+part)
		wantWords(t, part+" "+b, part)
	}
}

// TestOfOtherLetters: no letter of more than one byte is converted, nor bytes that are no letters at all.
func TestOfOtherLetters(t *testing.T) {
	wantWords(t, "caf\u00e9 CAF\u00c9", "caf")
	wantWords(t, "a\u212ab\u017fc\u0130d\u0131e", "a", "b", "c", "d", "e") // the signs for kelvin and a long s, and two kinds of i
	wantWords(t, "a\u0391\uff21\uff11\u0661b", "a", "b")
	wantWords(t, "\u212a\u017f")
	wantWords(t, "a\xc3b\xe2\x84c\xf0d\x80e\xc1\x81f", "a", "b", "c", "d", "e", "f")
	wantWords(t, "\xefA\xbbB\xbf", "a", "b")
}

// TestOfCapitals: they count as small letters, in words and among them.
func TestOfCapitals(t *testing.T) {
	wantWords(t, "THE The the tHE", "the")
	wantWords(t, "B a C", "a", "b", "c")
	wantWords(t, "ABCDEFGHIJKLM NOPQRSTUVWXYZ", "abcdefghijklm", "nopqrstuvwxyz")
	wantWords(t, "@AZ[`az{/09:", "09", "az")
}

// TestOfLong: of each sequence the first 16 bytes count, and the others are no words.
func TestOfLong(t *testing.T) {
	const s = "abcdefghijklmnopqrstuvwxyz0123456789"
	for n := 1; n <= len(s); n++ {
		wantWords(t, s[:n], s[:min(n, 16)])
		wantWords(t, " "+strings.ToUpper(s[:n])+" ", s[:min(n, 16)])
		wantWords(t, s[:n]+"!z", s[:min(n, 16)], "z")
	}
	wantWords(t, s[:16]+"x "+s[:16]+"Y "+s[:16]+" "+s[:15], s[:15], s[:16])
	wantWords(t, strings.Repeat("x", 33), strings.Repeat("x", 16))
	wantWords(t, strings.Repeat("9", 1<<20), strings.Repeat("9", 16))
	wantWords(t, s[:16]+"\xff"+s[16:32], s[:16], s[16:32])
}

// TestOfMany: only the first 64, in whatever order they are, and however often.
func TestOfMany(t *testing.T) {
	for _, n := range []int{1, 2, 62, 63, 64, 65, 66, 127, 128, 129, 500, 3000} {
		l := list(n)
		first := list(min(n, 64))
		wantWords(t, strings.Join(l, " "), first...)
		wantWords(t, strings.Join(l, " ")+" "+strings.Join(l, ","), first...)
		slices.Reverse(l)
		wantWords(t, strings.Join(l, " "), first...)
		wantWords(t, strings.ToUpper(strings.Join(l, ".")), first...)
	}
	wantWords(t, strings.Join(list(64), " ")+" 0", append([]string{"0"}, list(63)...)...)
	wantWords(t, "zz "+strings.Join(list(63), " "), append(list(63), "zz")...)
	wantWords(t, "zz "+strings.Join(list(64), " ")+" zz", list(64)...)
	wantWords(t, strings.Join(list(64), " ")+" zz", list(64)...)
}

// TestOfGreat: a text of the greatest length that a layer above has.
func TestOfGreat(t *testing.T) {
	text := strings.Repeat("b a ", api.MaxText/4)
	wantWords(t, text, "a", "b")
	wantWords(t, strings.Repeat(" ", api.MaxText))
	wantWords(t, strings.Repeat("\xff", api.MaxText-1)+"A", "a")
}

func TestCheck(t *testing.T) {
	for n := range 40 {
		for _, s := range []string{"a", "z", "0", "9", "k5"} {
			s = strings.Repeat(s, 40)[:n]
			if is := words.Check(s); is != (n >= 1 && n <= 16) {
				t.Errorf("Check of %q: %v", s, is)
			}
		}
	}
	for _, s := range []string{"A", "The", "thE", "a b", " a", "a ", "a\x00", "\x00", "caf\u00e9", "\xff", "a-b", strings.Repeat("a", 15) + "A", strings.Repeat("a", 15) + " ", strings.Repeat("a", 256), strings.Repeat("a", 1<<20)} {
		if words.Check(s) {
			t.Errorf("Check of %.80q", s)
		}
	}
}

func TestHas(t *testing.T) {
	const text = "The cat sat, 3 times: abcdefghijklmnopqrstuvwxyz"
	for _, l := range [][]string{
		nil, {}, {"cat"}, {"the"}, {"3"}, {"times"}, {"sat", "cat"}, {"cat", "cat"}, {"3", "cat", "sat", "the", "times"}, {"abcdefghijklmnop"},
	} {
		if !words.Has(text, l...) {
			t.Errorf("Has %q: false", l)
		}
	}
	for _, l := range [][]string{
		{""}, {"ca"}, {"at"}, {"cats"}, {"The"}, {"CAT"}, {"cat sat"}, {"cat", "dog"}, {"dog", "cat"}, {"cat", "sat", ""}, {"33"},
		{"abcdefghijklmnopq"}, {"abcdefghijklmno"}, {"qrstuvwxyz"}, {"abcdefghijklmnopqrstuvwxyz"}, {"cat\x00"}, {" cat"},
	} {
		if words.Has(text, l...) {
			t.Errorf("Has %q: true", l)
		}
	}
	if !words.Has("") || words.Has("", "a") || words.Has("", "") || words.Has(" ", " ") {
		t.Error("a text without words")
	}
}

// TestHasMany: what is not among the first 64 is no word of the text; any number of them may be asked for.
func TestHasMany(t *testing.T) {
	text := strings.Join(list(100), " ")
	if !words.Has(text, list(64)...) || !words.Has(text, append(list(64), list(64)...)...) {
		t.Error("not the first 64")
	}
	if words.Has(text, list(65)...) || words.Has(text, number(64)) || !words.Has(text, number(63)) {
		t.Error("more than the first 64")
	}
}

func TestClean(t *testing.T) {
	wantClean(t, []string{"a"}, "a")
	wantClean(t, []string{"b", "a", "b"}, "a", "b")
	wantClean(t, []string{"a", "a", "a", "a", "a", "a", "a", "a"}, "a")
	wantClean(t, []string{"h", "g", "f", "e", "d", "c", "b", "a"}, "a", "b", "c", "d", "e", "f", "g", "h")
	wantClean(t, []string{"b", "a", "b", "c", "a", "0"}, "0", "a", "b", "c")
	wantClean(t, []string{"ab", "a", "abc", "9", "aa"}, "9", "a", "aa", "ab", "abc")
	wantClean(t, []string{strings.Repeat("z", 16), strings.Repeat("z", 15)}, strings.Repeat("z", 15), strings.Repeat("z", 16))
}

// TestCleanWrong: none, too many, also of the same, or what is not a word, wherever it is.
func TestCleanWrong(t *testing.T) {
	wantNoClean(t)
	wantNoClean(t, []string{}...)
	wantNoClean(t, list(9)...)
	wantNoClean(t, list(1000)...)
	wantNoClean(t, "a", "a", "a", "a", "a", "a", "a", "a", "a")
	for _, s := range []string{"", "A", "a b", "Cat", "cat ", "\x00", "caf\u00e9", "abcdefghijklmnopq"} {
		wantNoClean(t, s)
		wantNoClean(t, s, s)
		for n := range 9 {
			for at := range n + 1 {
				wantNoClean(t, slices.Insert(list(n), at, s)...)
			}
		}
	}
}

// TestListsAreLeftAlone: rule 5, they are not changed, nor what lies behind them, and results are new.
func TestListsAreLeftAlone(t *testing.T) {
	given := []string{"c", "a", "c", "b", "z", "y"}
	l := slices.Clone(given)
	words.Has("a b c", l[:4]...)
	first, _ := words.Clean(l[:4]...)
	second, _ := words.Clean(l[:4]...)
	words.Clean(l[:1]...)
	if !slices.Equal(l, given) {
		t.Errorf("the list is %q now", l)
	}
	clear(first)
	_ = append(first[:1], "x")
	clear(l)
	if !slices.Equal(second, []string{"a", "b", "c"}) {
		t.Errorf("the other result is %q now", second)
	}
	one, two := words.Of("b a"), words.Of("b a")
	clear(one)
	_ = append(one[:0], "x", "y")
	if !slices.Equal(two, []string{"a", "b"}) {
		t.Errorf("the other result is %q now", two)
	}
}
