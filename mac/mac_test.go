package mac_test

import (
	"crypto/hkdf"
	"crypto/hmac"
	"crypto/sha256"
	"encoding/hex"
	"math"
	"slices"
	"strings"
	"testing"

	"sealwax/mac"
	"sealwax/sha"
)

const most = 8160

// allBytes returns n bytes that go through all values.
func allBytes(n int) string {
	out := make([]byte, n)
	for i := range out {
		out[i] = byte(i*5 + 3)
	}
	return string(out)
}

func wantOf(t *testing.T, key string, l ...string) {
	t.Helper()
	h := hmac.New(sha256.New, []byte(key))
	h.Write([]byte(strings.Join(l, "")))
	want := hex.EncodeToString(h.Sum(nil))
	if got := mac.Of(key, l...).Hex(); got != want {
		t.Errorf("key of %d bytes, %d texts: got %s, want %s", len(key), len(l), got, want)
	}
}

func unhex(t *testing.T, s string) string {
	t.Helper()
	out, err := hex.DecodeString(s)
	if err != nil {
		t.Fatal(err)
	}
	return string(out)
}

func TestOfKnownTexts(t *testing.T) {
	for _, c := range []struct{ key, text, want string }{
		{"Jefe", "what do ya want for nothing?", "5bdcc146bf60754e6a042426089575c75a003f089d2739839dec58b964ec3843"},
		{strings.Repeat("\x0b", 20), "Hi There", "b0344c61d8db38535ca8afceaf0bf12b881dc200c9833da726e9376c2e32cff7"},
		{strings.Repeat("\xaa", 131), "Test Using Larger Than Block-Size Key - Hash Key First", "60e431591ee0b67f0d8a26aacbf5b77f8e0bc6213728c5140546040f0ee37f54"},
		{"", "", "b613679a0814d9ec772f95d778c35fc5ff1697c493715653c6c712144292c5ad"},
	} {
		if got := mac.Of(c.key, c.text).Hex(); got != c.want {
			t.Errorf("%q: got %s, want %s", c.text, got, c.want)
		}
	}
}

func TestOfEveryKeyLength(t *testing.T) {
	for n := range 200 {
		key := allBytes(n)
		wantOf(t, key)
		wantOf(t, key, "")
		wantOf(t, key, "a text")
		wantOf(t, key, allBytes(256), "\x00", "\xff")
	}
	wantOf(t, allBytes(1<<16), allBytes(1<<16))
}

func TestOfEveryTextLength(t *testing.T) {
	for n := range 200 {
		wantOf(t, "key", allBytes(n))
	}
}

func TestOfNoTexts(t *testing.T) {
	for _, n := range []int{0, 1, 63, 64, 65, 128} {
		key := allBytes(n)
		want := mac.Of(key)
		if mac.Of(key, []string(nil)...) != want || mac.Of(key, "") != want || mac.Of(key, "", "") != want {
			t.Errorf("key of %d bytes: nothing has several hashes", n)
		}
	}
}

func TestOfLongKeyIsItsHash(t *testing.T) {
	key := allBytes(65)
	hash := sha.Of(key)
	if mac.Of(key, "x") != mac.Of(string(hash[:]), "x") {
		t.Error("65 bytes must be replaced by their hash")
	}
	key = key[:64]
	hash = sha.Of(key)
	if mac.Of(key, "x") == mac.Of(string(hash[:]), "x") {
		t.Error("64 bytes must stay as they are")
	}
}

func TestOfInParts(t *testing.T) {
	text := allBytes(200)
	for _, key := range []string{"", "k", allBytes(64), allBytes(100)} {
		want := mac.Of(key, text)
		for i := range len(text) + 1 {
			if mac.Of(key, text[:i], text[i:]) != want || mac.Of(key, "", text[:i], "", text[i:], "") != want {
				t.Fatalf("key of %d bytes, cut at %d: another hash", len(key), i)
			}
		}
		if mac.Of(key, strings.Split(text, "")...) != want {
			t.Errorf("key of %d bytes, in many parts: another hash", len(key))
		}
	}
	if mac.Of("a", "bc") == mac.Of("ab", "c") {
		t.Error("the key is not a part of the text")
	}
}

func TestEqual(t *testing.T) {
	for _, a := range []sha.Sum{{}, mac.Of("a"), mac.Of("b", "c")} {
		b := a
		if !mac.Equal(a, b) {
			t.Errorf("%x does not equal itself", a)
		}
		for place := range b {
			for change := 1; change < 256; change++ {
				b = a
				b[place] ^= byte(change)
				if mac.Equal(a, b) || mac.Equal(b, a) {
					t.Fatalf("byte %d differs by %d, and both are equal", place, change)
				}
			}
		}
	}
	a, b := sha.Sum{0: 1}, sha.Sum{31: 1}
	if mac.Equal(a, b) {
		t.Error("two differences cancel each other")
	}
}

func TestExtract(t *testing.T) {
	for _, n := range []int{0, 1, 32, 63, 64, 65, 200} {
		salt, key := allBytes(n), allBytes(2*n+1)
		want := mac.Of(salt, key)
		if got := mac.Extract(salt, key); got != string(want[:]) {
			t.Errorf("salt of %d bytes: got %x, want %x", n, got, want)
		}
	}
	want := "077709362c2e32df0ddc3f0dc47bba6390b6c73bb50f9c3122ec844ad7c2b3e5"
	got := mac.Extract(unhex(t, "000102030405060708090a0b0c"), strings.Repeat("\x0b", 22))
	if got != unhex(t, want) {
		t.Errorf("got %x, want %s", got, want)
	}
}

func TestExpandEveryLength(t *testing.T) {
	for _, keySize := range []int{0, 32, 64, 65, 150} {
		key := allBytes(keySize)
		for _, info := range []string{"", "what for", allBytes(100)} {
			for _, n := range []int{1, 31, 32, 33, 63, 64, 65, 96, 1000, most - 33, most - 32, most - 1, most} {
				want, err := hkdf.Expand(sha256.New, []byte(key), info, n)
				if err != nil {
					t.Fatal(err)
				}
				if got := mac.Expand(key, info, n); got != string(want) {
					t.Errorf("key of %d bytes, %q, %d: another result", keySize, info, n)
				}
			}
		}
	}
}

func TestExpandIsLimited(t *testing.T) {
	for _, n := range []int{0, -1, -5, -most, math.MinInt} {
		if got := mac.Expand("k", "i", n); got != "" {
			t.Errorf("Expand of %d has %d bytes", n, len(got))
		}
		if got := mac.Derive("s", "k", "i", n); got != "" {
			t.Errorf("Derive of %d has %d bytes", n, len(got))
		}
	}
	whole, derived := mac.Expand("k", "i", most), mac.Derive("s", "k", "i", most)
	for _, n := range []int{most + 1, most + 32, 1 << 20, math.MaxInt} {
		if got := mac.Expand("k", "i", n); got != whole || len(got) != most {
			t.Errorf("Expand of %d: %d bytes", n, len(got))
		}
		if got := mac.Derive("s", "k", "i", n); got != derived || len(got) != most {
			t.Errorf("Derive of %d: %d bytes", n, len(got))
		}
	}
}

func TestLongerExpandBeginsWithShorter(t *testing.T) {
	for _, key := range []string{"", "k", allBytes(65)} {
		whole := mac.Expand(key, "i", most)
		for n := range 300 {
			if got := mac.Expand(key, "i", n); got != whole[:n] {
				t.Fatalf("%d bytes are not the first ones", n)
			}
		}
		for n := 300; n <= most; n += 131 {
			if got := mac.Expand(key, "i", n); got != whole[:n] {
				t.Fatalf("%d bytes are not the first ones", n)
			}
		}
	}
}

func TestDerive(t *testing.T) {
	for _, n := range []int{0, 1, 31, 32, 33, 500, most} {
		salt, key, info := allBytes(n%90), allBytes(n%70), allBytes(n%50)
		if mac.Derive(salt, key, info, n) != mac.Expand(mac.Extract(salt, key), info, n) {
			t.Errorf("%d bytes: Derive is not Expand of Extract", n)
		}
	}
	for _, c := range []struct{ salt, key, info, want string }{
		{"000102030405060708090a0b0c", strings.Repeat("0b", 22), "f0f1f2f3f4f5f6f7f8f9",
			"3cb25f25faacd57a90434f64d0362f2a2d2d0a90cf1a5a4c5db02d56ecc4c5bf34007208d5b887185865"},
		{"", strings.Repeat("0b", 22), "",
			"8da4e775a563c18f715f802a063c5a31b8a11f5c5ee1879ec3454e5f3c738d2d9d201395faa4b61a96c8"},
	} {
		got := mac.Derive(unhex(t, c.salt), unhex(t, c.key), unhex(t, c.info), 42)
		if got != unhex(t, c.want) {
			t.Errorf("got %x, want %s", got, c.want)
		}
	}
}

// TestListsAreLeftAlone: rule 5 for the list, and for what lies behind it in memory.
func TestListsAreLeftAlone(t *testing.T) {
	all := []string{"a", allBytes(64), "c", "behind", "it"}
	before := slices.Clone(all)
	mac.Of("key", all[:3]...)
	mac.Of(allBytes(65), all[:0]...)
	if !slices.Equal(all, before) {
		t.Errorf("the list changed: %q", all)
	}
}

// TestListsAreTheirElements: rule 7.
func TestListsAreTheirElements(t *testing.T) {
	l := []string{"one", "", "two"}
	if mac.Of("key", l...) != mac.Of("key", "one", "", "two") {
		t.Error("a list has another hash than its elements")
	}
}
