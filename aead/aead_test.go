package aead_test

import (
	"encoding/binary"
	"encoding/hex"
	"math/rand"
	"strings"
	"testing"

	"sealwax/aead"
	"sealwax/poly"
	"sealwax/stream"
)

// someBytes returns n bytes that go through all values.
func someBytes(n, seed int) string {
	out := make([]byte, n)
	for i := range out {
		out[i] = byte(i*13 + i/256 + seed*31)
	}
	return string(out)
}

// spoilt returns a text with one bit of a byte changed.
func spoilt(s string, place, bit int) string {
	out := []byte(s)
	out[place] ^= 1 << bit
	return string(out)
}

func unhex(t *testing.T, s string) string {
	t.Helper()
	out, err := hex.DecodeString(strings.ReplaceAll(s, " ", ""))
	if err != nil {
		t.Fatal(err)
	}
	return string(out)
}

// plainTag is written apart from the program: what is hashed is laid out in one list of bytes.
func plainTag(k stream.Key, n stream.Nonce, ad, hidden string) string {
	var all []byte
	for _, s := range []string{ad, hidden} {
		all = append(all, s...)
		for len(all)%16 != 0 {
			all = append(all, 0)
		}
	}
	all = binary.LittleEndian.AppendUint64(all, uint64(len(ad)))
	all = binary.LittleEndian.AppendUint64(all, uint64(len(hidden)))
	block := stream.Block(k, 0, n)
	tag := poly.Of([32]byte(block[:32]), string(all))
	return string(tag[:])
}

// plainSeal xors byte by byte, and adds plainTag.
func plainSeal(k stream.Key, n stream.Nonce, ad, plain string) string {
	hidden := []byte(plain)
	for i := range hidden {
		block := stream.Block(k, uint32(1+i/64), n)
		hidden[i] ^= block[i%64]
	}
	return string(hidden) + plainTag(k, n, ad, string(hidden))
}

func wantOpen(t *testing.T, k stream.Key, n stream.Nonce, ad, s, want string) {
	t.Helper()
	if got, ok := aead.Open(k, n, ad, s); got != want || !ok {
		t.Errorf("Open, ad of %d bytes, sealed %x: got %q, %v, want %q", len(ad), s, got, ok, want)
	}
}

func wantShut(t *testing.T, k stream.Key, n stream.Nonce, ad, s, why string) {
	t.Helper()
	if got, ok := aead.Open(k, n, ad, s); got != "" || ok {
		t.Errorf("Open, %s: got %q, %v, want nothing", why, got, ok)
	}
}

// known are those of RFC 8439, 2.8.2 and A.5, and four that another program has made.
func known(t *testing.T) []struct{ key, nonce, ad, plain, want string } {
	t.Helper()
	ones := strings.Repeat("\xff", 65)
	draft := "Internet-Drafts are draft documents valid for a maximum of six months and may be updated, replaced, or obsoleted by other documents at any time. It is inappropriate to use Internet-Drafts as reference material or to cite them other than as /\u201cwork in progress./\u201d"
	return []struct{ key, nonce, ad, plain, want string }{
		{unhex(t, "808182838485868788898a8b8c8d8e8f909192939495969798999a9b9c9d9e9f"), unhex(t, "070000004041424344454647"), unhex(t, "50515253c0c1c2c3c4c5c6c7"),
			"Ladies and Gentlemen of the class of '99: If I could offer you only one tip for the future, sunscreen would be it.",
			"d31a8d34648e60db7b86afbc53ef7ec2a4aded51296e08fea9e2b5a736ee62d63dbea45e8ca9671282fafb69da92728b1a71de0a9e060b2905d6a5b67ecd3b3692ddbd7f2d778b8c9803aee328091b58fab324e4fad675945585808b4831d7bc3ff4def08e4b7a9de576d26586cec64b6116" +
				"1ae10b594f09e26a7e902ecbd0600691"},
		{unhex(t, "1c9240a5eb55d38af333888604f6b5f0473917c1402b80099dca5cbc207075c0"), unhex(t, "000000000102030405060708"), unhex(t, "f33388860000000000004e91"), draft,
			"64a0861575861af460f062c79be643bd5e805cfd345cf389f108670ac76c8cb24c6cfc18755d43eea09ee94e382d26b0bdb7b73c321b0100d4f03b7f355894cf332f830e710b97ce98c8a84abd0b948114ad176e008d33bd60f982b1ff37c8559797a06ef4f0ef61c186324e2b3506383606907b6a7c02b0f9f6157b53c867e4b9166c767b804d46a59b5216cde7a4e99040c5a40433225ee282a1b0a06c523eaf4534d7f83fa1155b0047718cbc546a0d072b04b3564eea1b422273f548271a0bb2316053fa76991955ebd63159434ecebb4e466dae5a1073a6727627097a1049e617d91d361094fa68f0ff77987130305beaba2eda04df997b714d6c6f2c29a6ad5cb4022b02709b" +
				"eead9d67890cbb22392336fea1851f38"},
		{"", "", "", "", "4eb972c9a8fb3a1b382bb4d36f5ffad1"},
		{"", "", "", "\x00", "9fbedcfd1809ff3c10adf8277fcc0581b8"},
		{ones[:32], ones[:12], ones[:16], "", "b027b7732d767b4085f0d2c585390ca0"},
		{ones[:32], ones[:12], ones[:17], ones[:65],
			"22d8bfc313e141bd692c82cec7785b295f8ddae08dbbc49a2deb545ef8a39534d8c0bdab2521070568ade0405d54eebcfecd35122cb5133d931f64722e05352292" +
				"ce83199f9a11a8bc58e4d8c1cd7e6f88"},
	}
}

func TestSealKnown(t *testing.T) {
	for _, c := range known(t) {
		k, n := stream.KeyOf(c.key), stream.NonceOf(c.nonce)
		if got := aead.Seal(k, n, c.ad, c.plain); got != unhex(t, c.want) {
			t.Errorf("%q: got %x, want %s", c.plain, got, c.want)
		}
		wantOpen(t, k, n, c.ad, unhex(t, c.want), c.plain)
	}
}

// TestEveryLength: all fillings of ad and of the text, and all ends of blocks.
func TestEveryLength(t *testing.T) {
	for i := range 35 {
		for j := range 135 {
			k, n := stream.KeyOf(someBytes(32, i+j)), stream.NonceOf(someBytes(12, i-j))
			ad, plain := someBytes(i, j), someBytes(j, i)
			got := aead.Seal(k, n, ad, plain)
			if got != plainSeal(k, n, ad, plain) {
				t.Fatalf("ad of %d bytes, text of %d bytes: got %x", i, j, got)
			}
			wantOpen(t, k, n, ad, got, plain)
		}
	}
}

// TestSizes: numbers of bytes whose second and third byte are used, on both sides.
func TestSizes(t *testing.T) {
	k, n := stream.KeyOf("some key"), stream.NonceOf("some nonce")
	for _, i := range []int{0, 1, 255, 256, 257, 4096, 65535, 65536, 65537, 1 << 20} {
		for _, j := range []int{0, 3, 256, 70000} {
			for _, c := range [][2]int{{i, j}, {j, i}} {
				ad, plain := someBytes(c[0], 1), someBytes(c[1], 2)
				s := aead.Seal(k, n, ad, plain)
				if len(s) != len(plain)+aead.Extra {
					t.Fatalf("%d bytes for %d", len(s), len(plain))
				}
				hidden := s[:len(plain)]
				if hidden != stream.Xor(k, 1, n, plain) || s[len(plain):] != plainTag(k, n, ad, hidden) {
					t.Errorf("ad of %d bytes, text of %d bytes: sealed in another way", c[0], c[1])
				}
				wantOpen(t, k, n, ad, s, plain)
			}
		}
	}
}

func TestExtra(t *testing.T) {
	if aead.Extra != 16 {
		t.Errorf("Extra is %d", aead.Extra)
	}
	for _, ad := range []string{"", "ad"} {
		for j := range 300 {
			s := aead.Seal(stream.Key{}, stream.Nonce{}, ad, someBytes(j, 0))
			if len(s) != j+aead.Extra {
				t.Errorf("%d bytes are sealed as %d", j, len(s))
			}
		}
	}
}

// TestShort: there is no tag in it.
func TestShort(t *testing.T) {
	k, n := stream.KeyOf("k"), stream.NonceOf("n")
	s := aead.Seal(k, n, "", "")
	for i := range aead.Extra {
		wantShut(t, k, n, "", s[:i], "too short")
		wantShut(t, k, n, "", s[aead.Extra-i:], "too short, its end")
		wantShut(t, k, n, "", strings.Repeat("\x00", i), "a few zero bytes")
		wantShut(t, k, n, someBytes(i, 1), someBytes(i, 2), "a few bytes")
	}
	wantOpen(t, k, n, "", s, "")
}

// TestShortTag: a tag whose last bytes are zero does not hold without them.
func TestShortTag(t *testing.T) {
	k := stream.KeyOf("k")
	for i := range 1 << 20 {
		n := stream.NonceOf(string([]byte{byte(i), byte(i >> 8), byte(i >> 16)}))
		s := aead.Seal(k, n, "", "")
		if s[aead.Extra-1] == 0 {
			wantOpen(t, k, n, "", s, "")
			wantShut(t, k, n, "", s[:aead.Extra-1], "without the zero byte at the end")
			return
		}
	}
	t.Error("found no such tag")
}

// TestEveryBit: none of the sealed text, of ad, of the key and of the nonce is ignored.
func TestEveryBit(t *testing.T) {
	key, nonce := someBytes(32, 1), someBytes(12, 2)
	k, n := stream.KeyOf(key), stream.NonceOf(nonce)
	for _, c := range [][2]int{{0, 0}, {0, 1}, {1, 0}, {16, 16}, {15, 64}, {17, 33}, {32, 129}} {
		ad, plain := someBytes(c[0], 3), someBytes(c[1], 4)
		s := aead.Seal(k, n, ad, plain)
		for bit := range 8 {
			for i := range len(s) {
				wantShut(t, k, n, ad, spoilt(s, i, bit), "the sealed text was changed")
			}
			for i := range len(ad) {
				wantShut(t, k, n, spoilt(ad, i, bit), s, "ad was changed")
			}
			for i := range len(key) {
				wantShut(t, stream.KeyOf(spoilt(key, i, bit)), n, ad, s, "the key was changed")
			}
			for i := range len(nonce) {
				wantShut(t, k, stream.NonceOf(spoilt(nonce, i, bit)), ad, s, "the nonce was changed")
			}
		}
		wantOpen(t, k, n, ad, s, plain)
	}
}

// TestMoved: bytes that were cut, added, or moved between ad and the text.
func TestMoved(t *testing.T) {
	k, n := stream.KeyOf("k"), stream.NonceOf("n")
	for _, c := range [][2]int{{0, 0}, {0, 20}, {5, 0}, {5, 11}, {16, 16}, {20, 40}} {
		ad, plain := someBytes(c[0], 3), someBytes(c[1], 4)
		s := aead.Seal(k, n, ad, plain)
		for i := range len(s) {
			wantShut(t, k, n, ad, s[:i], "its end was cut")
			wantShut(t, k, n, ad, s[i+1:], "its start was cut")
			wantShut(t, k, n, ad, s[:i]+s[i+1:], "a byte was taken out")
			wantShut(t, k, n, ad+s[:i+1], s[i+1:], "bytes were moved to ad")
		}
		for i := range len(s) + 1 {
			wantShut(t, k, n, ad, s[:i]+"\x00"+s[i:], "a zero byte was put in")
		}
		for i := range len(ad) {
			wantShut(t, k, n, ad[:i], s, "the end of ad was cut")
			wantShut(t, k, n, ad[:i], ad[i:]+s, "bytes were moved from ad")
		}
		for i := range 40 {
			wantShut(t, k, n, ad+strings.Repeat("\x00", i+1), s, "zero bytes behind ad")
			wantShut(t, k, n, ad, s+strings.Repeat("\x00", i+1), "zero bytes behind the sealed text")
			wantShut(t, k, n, ad, strings.Repeat("\x00", i+1)+s, "zero bytes before the sealed text")
		}
	}
}

// TestSwapped: what is text and what is ad differ, and so do the parts of two sealed texts.
func TestSwapped(t *testing.T) {
	k, n := stream.KeyOf("k"), stream.NonceOf("n")
	a, b := aead.Seal(k, n, "ad", someBytes(32, 1)), aead.Seal(k, n, "ad", someBytes(32, 2))
	wantShut(t, k, n, "ad", a[:32]+b[32:], "the tag of another text")
	wantShut(t, k, n, "ad", b[:16]+a[16:], "half of another text")
	hidden := a[:32]
	wantShut(t, k, n, hidden, "ad"+plainTag(k, n, "ad", hidden), "ad and the text were exchanged")
	wantShut(t, k, n, "ad", someBytes(32, 1)+a[32:], "the plain text")
	wantShut(t, k, n, "ad", "", "nothing")
}

// TestOpenForeign: what is opened is exactly what Seal makes of the result, also if Seal did not make it.
func TestOpenForeign(t *testing.T) {
	for seed := range 300 {
		k, n := stream.KeyOf(someBytes(seed%40, seed)), stream.NonceOf(someBytes(seed%13, 2*seed))
		ad, hidden := someBytes(seed%50, 3*seed), someBytes(seed, 5*seed)
		s := hidden + plainTag(k, n, ad, hidden)
		plain, ok := aead.Open(k, n, ad, s)
		if !ok || plain != stream.Xor(k, 1, n, hidden) || aead.Seal(k, n, ad, plain) != s {
			t.Errorf("%d bytes: got %q, %v", len(hidden), plain, ok)
		}
	}
}

// TestOpenAny: texts that mean nothing; if one is opened, Seal makes it again.
func TestOpenAny(t *testing.T) {
	r := rand.New(rand.NewSource(5))
	k, n := stream.KeyOf("k"), stream.NonceOf("n")
	some := func(most int) string {
		b := make([]byte, r.Intn(most))
		r.Read(b)
		return string(b)
	}
	for range 5000 {
		ad, s := some(40), some(100)
		if r.Intn(2) == 0 {
			s = aead.Seal(k, n, some(3), s)
		}
		plain, ok := aead.Open(k, n, ad, s)
		if ok && aead.Seal(k, n, ad, plain) != s || !ok && plain != "" {
			t.Fatalf("ad %x, %x: got %q, %v", ad, s, plain, ok)
		}
		if again, same := aead.Open(k, n, ad, s); again != plain || same != ok {
			t.Fatalf("ad %x, %x: another result at the second time", ad, s)
		}
	}
}

// TestSealDiffers: the key, the nonce and ad all show in the sealed text, and the same call makes the same.
func TestSealDiffers(t *testing.T) {
	seen := map[string]int{}
	for i := range 2 {
		for j := range 2 {
			for l := range 2 {
				for m := range 2 {
					k, n := stream.KeyOf(someBytes(i, 1)), stream.NonceOf(someBytes(j, 1))
					ad, plain := strings.Repeat("\x00", l), strings.Repeat("\x00", m)
					seen[aead.Seal(k, n, ad, plain)]++
					seen[aead.Seal(k, n, ad, plain)]++
				}
			}
		}
	}
	if len(seen) != 16 {
		t.Errorf("%d sealed texts of 16 calls", len(seen))
	}
}
