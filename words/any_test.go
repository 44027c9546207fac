package words_test

import (
	"math/rand"
	"regexp"
	"slices"
	"strings"
	"testing"

	"sealwax/api"
	"sealwax/words"
)

var (
	plainSequence = regexp.MustCompile(`[a-z0-9]+`)
	plainWord     = regexp.MustCompile(`^[a-z0-9]{1,16}$`)
)

// plainOf is written apart from the program: it collects all words, and sorts them at the end.
func plainOf(text string) []string {
	for i := range 26 {
		text = strings.ReplaceAll(text, "ABCDEFGHIJKLMNOPQRSTUVWXYZ"[i:i+1], "abcdefghijklmnopqrstuvwxyz"[i:i+1])
	}
	found := map[string]bool{}
	for _, w := range plainSequence.FindAllString(text, -1) {
		if len(w) > 16 {
			w = w[:16]
		}
		found[w] = true
	}
	var out []string
	for w := range found {
		out = append(out, w)
	}
	slices.Sort(out)
	if len(out) > 64 {
		out = out[:64]
	}
	return out
}

// anyText returns words and what is between them, of a few letters or of many, or any bytes.
func anyText(r *rand.Rand) string {
	letters := []string{"ab", "aAbB", "abcXYZ019", "0123456789abcdefghijklmnopqrstuvwxyzABCDEFGHIJKLMNOPQRSTUVWXYZ"}[r.Intn(4)]
	var out []byte
	for range r.Intn(200) {
		switch r.Intn(12) {
		case 0:
			out = append(out, byte(r.Intn(256)))
		case 1:
			out = append(out, []string{"\u00e9", "\u212a", "\u017f", "\xff", "\x00", "@[`{/:"}[r.Intn(6)]...)
		default:
			out = append(out, ' ')
		}
		for range r.Intn(1 + r.Intn(40)) {
			out = append(out, letters[r.Intn(len(letters))])
		}
	}
	return string(out)
}

// wantAscending checks that each one occurs once, and all of them are words (P15.2).
func wantAscending(t *testing.T, l []string) {
	t.Helper()
	for i, w := range l {
		if !words.Check(w) || !plainWord.MatchString(w) {
			t.Errorf("%q is not a word", w)
		}
		if i > 0 && l[i-1] >= w {
			t.Errorf("%q comes before %q", l[i-1], w)
		}
	}
}

// TestOfAny: P15.1 and P15.2, any texts.
func TestOfAny(t *testing.T) {
	r := rand.New(rand.NewSource(15))
	many, none := 0, 0
	for range 5000 {
		text := anyText(r)
		got, wanted := words.Of(text), plainOf(text)
		if !slices.Equal(got, wanted) {
			t.Fatalf("%q: got %q, want %q", text, got, wanted)
		}
		wantAscending(t, got)
		switch len(got) {
		case 64:
			many++
		case 0:
			none++
		}
	}
	if many < 100 || none < 20 {
		t.Errorf("%d texts with 64 words, %d without any: the test asks too little", many, none)
	}
}

// TestOfShort: each text of two bytes.
func TestOfShort(t *testing.T) {
	for i := range 256 * 256 {
		text := string([]byte{byte(i >> 8), byte(i)})
		if got, wanted := words.Of(text), plainOf(text); !slices.Equal(got, wanted) {
			t.Fatalf("%q: got %q, want %q", text, got, wanted)
		}
		if words.Check(text) != plainWord.MatchString(text) {
			t.Fatalf("Check of %q: %v", text, words.Check(text))
		}
	}
}

// TestHasAny: words of the text, and others.
func TestHasAny(t *testing.T) {
	r := rand.New(rand.NewSource(151))
	has, not := 0, 0
	for range 5000 {
		text := anyText(r)
		own, others := plainOf(text), plainOf(anyText(r))
		wanted := true
		l := []string{}
		for range r.Intn(6) {
			w := []string{"", "a", "B", text}[r.Intn(4)]
			if n := r.Intn(10); n > 0 && len(own) > 0 {
				w = own[r.Intn(len(own))]
			} else if n == 0 && len(others) > 0 {
				w = others[r.Intn(len(others))]
			}
			l = append(l, w)
			wanted = wanted && slices.Contains(own, w)
		}
		if words.Has(text, l...) != wanted {
			t.Fatalf("%q: Has %q is %v", text, l, !wanted)
		}
		if wanted {
			has++
		} else {
			not++
		}
	}
	if has < 500 || not < 500 {
		t.Errorf("%d times true, %d times false: the test asks for one kind only", has, not)
	}
}

// TestCleanAny: lists of words and other texts.
func TestCleanAny(t *testing.T) {
	r := rand.New(rand.NewSource(152))
	fine, wrong := 0, 0
	for range 10000 {
		var l []string
		wanted := api.OK
		from := append(plainOf(anyText(r)), "a", "b", "0")
		if r.Intn(4) == 0 {
			from = append(from, "A", "", "a b", strings.Repeat("a", 17))
		}
		for range r.Intn(12) {
			w := from[r.Intn(len(from))]
			l = append(l, w)
			if !plainWord.MatchString(w) {
				wanted = api.ErrArg
			}
		}
		if len(l) == 0 || len(l) > 8 {
			wanted = api.ErrArg
		}
		got, e := words.Clean(l...)
		if e != wanted || e != api.OK && len(got) != 0 {
			t.Fatalf("Clean %q: got %q, error %d", l, got, e)
		}
		if e != api.OK {
			wrong++
			continue
		}
		fine++
		wantAscending(t, got)
		for _, w := range l {
			if !slices.Contains(got, w) {
				t.Fatalf("Clean %q: %q is missing", l, w)
			}
		}
		for _, w := range got {
			if !slices.Contains(l, w) {
				t.Fatalf("Clean %q: got %q too", l, w)
			}
		}
	}
	if fine < 1000 || wrong < 1000 {
		t.Errorf("%d times OK, %d times an error: the test asks for one kind only", fine, wrong)
	}
}
