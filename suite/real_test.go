package suite_test

import (
	"crypto/hkdf"
	"crypto/hmac"
	"crypto/sha256"
	"math/rand"
	"strings"
	"testing"

	"sealwax/aead"
	"sealwax/stream"
	"sealwax/suite"
)

// keyOf derives a key, written apart from the program.
func keyOf(t *testing.T, key, purpose string) string {
	t.Helper()
	out, err := hkdf.Key(sha256.New, []byte(key), []byte("sealwax"), purpose, 32)
	if err != nil {
		t.Fatal(err)
	}
	return string(out)
}

// hashed returns the hash of a text with a key, written apart from the program.
func hashed(key, text string) string {
	h := hmac.New(sha256.New, []byte(key))
	h.Write([]byte(text))
	return string(h.Sum(nil))
}

var long = strings.Repeat("k", 100)

// TestRealSealKnown: bytes that another program made.
func TestRealSealKnown(t *testing.T) {
	for _, c := range []struct {
		key       string
		at        suite.At
		ad, plain string
		want      string
	}{
		{"a key", suite.At{}, "", "", "6d0ff60f53e3b95bb5da791b41fe9ea9"},
		{"a key", suite.At{Boot: 3, Seq: 1 << 39}, "ad", "plain", "a8aaa77e16d1e74b106a5aeafcf8de1c334580d324"},
		{"", suite.At{Boot: 1, Seq: 2}, "page 7", "two cats", "8e72c5f3101c04e504054c6503109bdb617cec19994e423f"},
		{"a key", suite.At{Boot: 1 << 40, Seq: 1 << 40}, "\x00", strings.Repeat("\xff", 20), "d147ff7531a1c147c9bdb681ff6b6e375d1a6e7aab73cb23daefad5e9902f7c8c4743b13"},
		{long, suite.At{Boot: 0x0102030405, Seq: 0xa1b2c3d4}, "x", "y", "cbfc72390307d50077330162db34370de9"},
	} {
		s := suite.Real(c.key)
		got := s.Seal(c.at, c.ad, c.plain)
		if asHex(got) != c.want {
			t.Errorf("%q at %v: got %x, want %s", c.plain, c.at, got, c.want)
		}
		wantOpen(t, s, c.at, c.ad, got, c.plain)
	}
}

func TestRealLabelKnown(t *testing.T) {
	for _, c := range []struct {
		key, word string
		n, part   int
		want      string
	}{
		{"a key", "word", 1, 0, "7e707aa488c31e6df4841e0a08c42e01"},
		{"a key", "word", 1, 1, "1f56e349fe9e7a0f3d7c934ec1edec74"},
		{"a key", "", 0, 0, "5c5527723310e94a18b202cf24a89b19"},
		{"", "cats", 258, 1 << 40, "52833aa8f36eeab0539ab4eceb6304d1"},
		{long, "\x00\xff", 7, 9, "8049898dde12adf688a89d85775a14af"},
	} {
		got := suite.Real(c.key).Label(c.word, c.n, c.part)
		if asHex(string(got[:])) != c.want {
			t.Errorf("%q %d %d: got %x, want %s", c.word, c.n, c.part, got, c.want)
		}
	}
}

func TestRealMacKnown(t *testing.T) {
	for _, c := range []struct{ key, text, want string }{
		{"a key", "", "3189973696dc05e6d9bfafbe5cc225c43e5c89c72121b6dfdff268d4c4a07d1b"},
		{"a key", "ab", "67b9fd6f8d57bef5b195dff391e1d8393e66f7b2d7df277dcc0ede2e14cd3b8d"},
		{"", "two cats", "951c46e41359e74169a8daaca026715e4521bd811219c712891d2f2f4bd27125"},
		{long, "\x00\xff", "a2a0644c83939e75498d7834748c93689bcb1a9393b09cfd3e1a339d2a86c68e"},
	} {
		if got := suite.Real(c.key).Mac(c.text).Hex(); got != c.want {
			t.Errorf("%q: got %s, want %s", c.text, got, c.want)
		}
	}
}

// TestRealAny: any keys, places, texts and numbers.
func TestRealAny(t *testing.T) {
	r := rand.New(rand.NewSource(8))
	for range 500 {
		key := allBytes(r.Intn(200))
		page, name, check := keyOf(t, key, "page"), keyOf(t, key, "label"), keyOf(t, key, "mac")
		s := suite.Real(key)
		at := suite.At{Boot: r.Intn(most+1) >> r.Intn(40), Seq: r.Intn(most+1) >> r.Intn(40)}
		ad, text := allBytes(r.Intn(40)), allBytes(r.Intn(300))
		nonce := stream.NonceOf(number(at.Boot)[2:] + number(at.Seq)[2:])
		if got, want := s.Seal(at, ad, text), aead.Seal(stream.KeyOf(page), nonce, ad, text); got != want {
			t.Errorf("Seal at %v: got %x, want %x", at, got, want)
		}
		n, part := r.Int()>>r.Intn(63), r.Int()>>r.Intn(63)
		label := s.Label(text, n, part)
		if want := hashed(name, number(len(text))+text+number(n)+number(part))[:16]; string(label[:]) != want {
			t.Errorf("Label %d %d: got %x, want %x", n, part, label, want)
		}
		sum := s.Mac(ad, text, ad)
		if want := hashed(check, ad+text+ad); string(sum[:]) != want {
			t.Errorf("Mac: got %x, want %x", sum, want)
		}
		if s.Drawn() != 0 {
			t.Errorf("Drawn: %d", s.Drawn())
		}
	}
}

// TestRealOpensAnywhere: it remembers nothing, so that a suite with the same key does the same, and none with another key.
func TestRealOpensAnywhere(t *testing.T) {
	at := suite.At{Boot: 1, Seq: 1}
	s := suite.Real("a key")
	first, second := s.Seal(at, "ad", "one"), s.Seal(at, "ad", "two")
	sum := s.Mac("text")
	for _, same := range []*suite.Suite{s, suite.Real("a key"), s.Clone(), suite.Real("a key").Clone()} {
		wantOpen(t, same, at, "ad", first, "one")
		wantOpen(t, same, at, "ad", second, "two")
		if !same.Check(sum, "te", "xt") || same.Mac("text") != sum || same.Label("word", 1, 2) != s.Label("word", 1, 2) {
			t.Error("the same key does something else")
		}
	}
	for _, key := range []string{"", "a", "a kez", "a key ", "\x00a key"} {
		other := suite.Real(key)
		wantShut(t, other, at, "ad", first)
		if other.Check(sum, "text") || other.Mac("text") == sum || other.Label("word", 1, 2) == s.Label("word", 1, 2) {
			t.Errorf("%q is accepted as a key", key)
		}
	}
}

// TestRealSealStays: a text that is sealed again is sealed alike.
func TestRealSealStays(t *testing.T) {
	s := suite.Real("a key")
	at := suite.At{Boot: 9, Seq: 7}
	if s.Seal(at, "ad", "plain") != s.Seal(at, "ad", "plain") || s.Mac("a") != s.Mac("a") {
		t.Error("two results for one call")
	}
}
