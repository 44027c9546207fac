package poly_test

import (
	"encoding/hex"
	"math/big"
	"slices"
	"strings"
	"testing"

	"sealwax/poly"
)

// someBytes returns n bytes that go through all values.
func someBytes(n, seed int) string {
	out := make([]byte, n)
	for i := range out {
		out[i] = byte(i*i*3 + i*7 + seed*29)
	}
	return string(out)
}

func unhex(t *testing.T, s string) string {
	t.Helper()
	out, err := hex.DecodeString(strings.ReplaceAll(s, " ", ""))
	if err != nil {
		t.Fatal(err)
	}
	return string(out)
}

func keyOf(s string) [32]byte {
	var k [32]byte
	copy(k[:], s)
	return k
}

// numberOf returns the number of bytes, the least significant first.
func numberOf(s string) *big.Int {
	b := []byte(s)
	slices.Reverse(b)
	return new(big.Int).SetBytes(b)
}

// bytesOf returns the lowest n bytes of a number, the least significant first.
func bytesOf(x *big.Int, n int) string {
	rest := new(big.Int).Mod(x, new(big.Int).Lsh(big.NewInt(1), uint(8*n)))
	b := rest.FillBytes(make([]byte, n))
	slices.Reverse(b)
	return string(b)
}

// modulus returns 2^130 - 5.
func modulus() *big.Int {
	return new(big.Int).Sub(new(big.Int).Lsh(big.NewInt(1), 130), big.NewInt(5))
}

// plainR returns r, the bits cleared one byte after another.
func plainR(key [32]byte) *big.Int {
	for _, i := range []int{3, 7, 11, 15} {
		key[i] &= 0x0f
	}
	for _, i := range []int{4, 8, 12} {
		key[i] &= 0xfc
	}
	return numberOf(string(key[:16]))
}

// plainSum is written apart from the program, with numbers of any size: the sum of a text, before s is added.
func plainSum(key [32]byte, text string) *big.Int {
	r, sum := plainR(key), new(big.Int)
	for text != "" {
		n := min(16, len(text))
		sum.Add(sum, numberOf(text[:n]+"\x01"))
		sum.Mod(sum.Mul(sum, r), modulus())
		text = text[n:]
	}
	return sum
}

func plainOf(key [32]byte, text string) string {
	sum := plainSum(key, text)
	return bytesOf(sum.Add(sum, numberOf(string(key[16:]))), 16)
}

func wantOf(t *testing.T, key [32]byte, l ...string) {
	t.Helper()
	text := strings.Join(l, "")
	if got, want := poly.Of(key, l...), plainOf(key, text); string(got[:]) != want {
		t.Errorf("key %x, %d texts of %d bytes: got %x, want %x", key, len(l), len(text), got, want)
	}
}

func keys() [][32]byte {
	ones := strings.Repeat("\xff", 32)
	out := [][32]byte{
		keyOf(""), keyOf(ones), keyOf(ones[:16]), keyOf(strings.Repeat("\x00", 16) + ones),
		keyOf("\x01"), keyOf("\x02"), keyOf("\x01" + strings.Repeat("\x00", 15) + ones[:16]),
		keyOf("\xff\xff\xff\x0f\xfc\xff\xff\x0f\xfc\xff\xff\x0f\xfc\xff\xff\x0f" + ones),
	}
	for seed := range 12 {
		out = append(out, keyOf(someBytes(32, seed)))
	}
	return out
}

// TestOfKnown: RFC 8439, 2.5.2 and A.3, where the numbers come near 2^130 - 5 and 2^128.
func TestOfKnown(t *testing.T) {
	ones, zeros := strings.Repeat("ff", 16), strings.Repeat("00", 16)
	short := func(s string) string { return s + zeros[len(s):] }
	for _, c := range []struct{ r, s, text, want string }{
		{"85d6be7857556d337f4452fe42d506a8", "0103808afb0db2fd4abff6af4149f51b", hex.EncodeToString([]byte("Cryptographic Forum Research Group")), "a8061dc1305136c6c22b8baf0c0127a9"},
		{zeros, zeros, strings.Repeat(zeros, 4), zeros},
		{short("02"), zeros, ones, short("03")},
		{short("02"), ones, short("02"), short("03")},
		{short("01"), zeros, ones + "f0" + ones[2:] + "11" + zeros[2:], short("05")},
		{short("01"), zeros, ones + "fb" + strings.Repeat("fe", 15) + strings.Repeat("01", 16), zeros},
		{short("02"), zeros, "fd" + ones[2:], "fa" + ones[2:]},
		{"01000000000000000400000000000000", zeros, "e33594d7505e43b900000000000000003394d7505e4379cd01000000000000000000000000000000000000000000000001000000000000000000000000000000", "14000000000000005500000000000000"},
		{"01000000000000000400000000000000", zeros, "e33594d7505e43b900000000000000003394d7505e4379cd010000000000000000000000000000000000000000000000", short("13")},
	} {
		got := poly.Of(keyOf(unhex(t, c.r+c.s)), unhex(t, c.text))
		if got.Text() != unhex(t, c.want) {
			t.Errorf("r %s, s %s: got %x, want %s", c.r, c.s, got, c.want)
		}
	}
}

func TestOfEveryLength(t *testing.T) {
	for _, key := range keys() {
		for n := range 100 {
			wantOf(t, key, someBytes(n, n))
			wantOf(t, key, strings.Repeat("\xff", n))
			wantOf(t, key, strings.Repeat("\x00", n))
		}
		for _, n := range []int{255, 256, 257, 4096, 10001} {
			wantOf(t, key, someBytes(n, 1))
			wantOf(t, key, strings.Repeat("\xff", n))
		}
	}
}

func TestOfNothing(t *testing.T) {
	for _, key := range keys() {
		s := string(key[16:])
		if poly.Of(key).Text() != s || poly.Of(key, "").Text() != s || poly.Of(key, "", "", "").Text() != s || poly.Of(key, []string(nil)...).Text() != s {
			t.Errorf("key %x: the tag of no bytes is not s", key)
		}
	}
}

// TestClearedBits: these bits of r do not matter, and all others do.
func TestClearedBits(t *testing.T) {
	cleared := map[int]byte{3: 0xf0, 7: 0xf0, 11: 0xf0, 15: 0xf0, 4: 3, 8: 3, 12: 3}
	text := someBytes(40, 3)
	for _, key := range [][32]byte{{}, keyOf(someBytes(32, 5))} {
		want := poly.Of(key, text)
		for place := range 16 {
			for bit := range 8 {
				changed := key
				changed[place] ^= 1 << bit
				matters := cleared[place]>>bit&1 == 0
				if got := poly.Of(changed, text); (got != want) != matters {
					t.Errorf("bit %d of byte %d of r: matters is %v", bit, place, !matters)
				}
				wantOf(t, changed, text)
			}
		}
	}
}

// TestEveryBitOfS: s is added behind the modulus, and what exceeds 16 bytes falls away.
func TestEveryBitOfS(t *testing.T) {
	for place := 16; place < 32; place++ {
		for bit := range 8 {
			key := keyOf(someBytes(16, 7))
			key[place] = 1 << bit
			wantOf(t, key, someBytes(50, 2))
			key = keyOf(someBytes(16, 7) + strings.Repeat("\xff", 16))
			key[place] ^= 1 << bit
			wantOf(t, key, someBytes(50, 2))
		}
	}
}

// TestEveryBitOfAText: none is ignored, and zero bytes at the end are not either.
func TestEveryBitOfAText(t *testing.T) {
	key := keyOf(someBytes(32, 4))
	text := someBytes(37, 6)
	want := poly.Of(key, text)
	for place := range len(text) {
		for bit := range 8 {
			b := []byte(text)
			b[place] ^= 1 << bit
			if poly.Of(key, string(b)) == want {
				t.Errorf("bit %d of byte %d does not matter", bit, place)
			}
			wantOf(t, key, string(b))
		}
	}
	seen := map[poly.Tag]int{}
	for n := range 50 {
		seen[poly.Of(key, strings.Repeat("\x00", n))] = n
	}
	if len(seen) != 50 {
		t.Error("two numbers of zero bytes have one tag")
	}
}

// TestSumNearTheModulus: with r = 1, three blocks come to numbers on both sides of 2^130 - 5 and of 2^130, so that less than one, one or more of it must be taken away.
func TestSumNearTheModulus(t *testing.T) {
	ones := numberOf(strings.Repeat("\xff", 16))
	for _, s := range []string{"", strings.Repeat("\xff", 16), "\x05", "\xfb" + strings.Repeat("\xff", 15)} {
		key := keyOf("\x01" + strings.Repeat("\x00", 15) + s)
		for near := int64(-20); near <= 20; near++ {
			// the three bytes 1 come to 3 * 2^128, and these to what is missing
			x := new(big.Int).Add(ones, big.NewInt(1-5+near))
			first := x
			rest := new(big.Int)
			if x.Cmp(ones) > 0 {
				first = ones
				rest.Sub(x, ones)
			}
			wantOf(t, key, bytesOf(first, 16), bytesOf(rest, 16), bytesOf(new(big.Int), 16))
		}
	}
}

// TestProductNearTheModulus: the same for any r, where the last product comes to numbers on both sides of 2^130 - 5.
func TestProductNearTheModulus(t *testing.T) {
	for _, key := range keys() {
		r := plainR(key)
		if r.Sign() == 0 {
			continue
		}
		inverse := new(big.Int).ModInverse(r, modulus())
		for near := int64(-10); near <= 10; near++ {
			wantProduct(t, key, new(big.Int).Mul(big.NewInt(near), inverse))
		}
	}
}

// wantProduct takes a text whose last block brings the sum, before it is multiplied, to a number modulo 2^130 - 5.
func wantProduct(t *testing.T, key [32]byte, sum *big.Int) {
	t.Helper()
	one := new(big.Int).Lsh(big.NewInt(1), 128)
	for seed := range 100 {
		text := someBytes(16*(seed%6), seed)
		last := new(big.Int).Sub(sum, plainSum(key, text))
		last.Sub(last, one).Mod(last, modulus())
		if last.Cmp(one) < 0 { // otherwise no block has this number
			wantOf(t, key, text, bytesOf(last, 16))
			return
		}
	}
	t.Errorf("key %x: found no text", key)
}

// cut divides a text into parts of the given sizes, again and again.
func cut(text string, sizes ...int) []string {
	var out []string
	for i := 0; text != ""; i++ {
		n := min(sizes[i%len(sizes)], len(text))
		out = append(out, text[:n])
		text = text[n:]
	}
	return out
}

func TestOfInParts(t *testing.T) {
	for _, key := range keys() {
		for _, n := range []int{1, 15, 16, 17, 31, 32, 33, 48, 100} {
			text := someBytes(n, n)
			want := poly.Of(key, text)
			for i := range n + 1 {
				if poly.Of(key, text[:i], text[i:]) != want || poly.Of(key, "", text[:i], "", text[i:], "") != want {
					t.Fatalf("%d bytes, cut at %d: another tag", n, i)
				}
			}
			for _, sizes := range [][]int{{1}, {2, 3}, {0, 1}, {15}, {16}, {17}, {15, 1}, {1, 15}, {1, 16, 0, 31}, {32}, {7, 64}} {
				if poly.Of(key, cut(text, sizes...)...) != want {
					t.Errorf("%d bytes in parts of %v: another tag", n, sizes)
				}
			}
			wantOf(t, key, cut(text, 5)...)
		}
	}
}

func TestEqual(t *testing.T) {
	for _, a := range []poly.Tag{{}, poly.TagOf("abc"), poly.TagOf(strings.Repeat("\xff", 16)), poly.TagOf(someBytes(16, 1))} {
		b := a
		if !poly.Equal(a, b) {
			t.Errorf("%x does not equal itself", a)
		}
		for place := range b {
			for change := 1; change < 256; change++ {
				b = a
				b[place] ^= byte(change)
				if poly.Equal(a, b) || poly.Equal(b, a) {
					t.Fatalf("byte %d differs by %d, and both are equal", place, change)
				}
			}
		}
	}
	if poly.Equal(poly.Tag{0: 1}, poly.Tag{15: 1}) || poly.Equal(poly.Tag{0: 1, 1: 1}, poly.Tag{}) {
		t.Error("two differences cancel each other")
	}
}

func TestTagOfAndText(t *testing.T) {
	text := someBytes(60, 2)
	for n := range len(text) + 1 {
		want := (text[:n] + strings.Repeat("\x00", 16))[:16]
		tag := poly.TagOf(text[:n])
		if string(tag[:]) != want {
			t.Errorf("TagOf %d bytes: got %x, want %x", n, tag, want)
		}
		if tag.Text() != want {
			t.Errorf("Text of %x: got %x", tag, tag.Text())
		}
		if poly.TagOf(tag.Text()) != tag {
			t.Errorf("%x is not the tag of its bytes", tag)
		}
	}
	if poly.TagOf("") != (poly.Tag{}) || (poly.Tag{}).Text() != strings.Repeat("\x00", 16) {
		t.Error("no bytes: not the zero tag")
	}
	if poly.TagOf(someBytes(1<<20, 0)) != poly.TagOf(someBytes(16, 0)) || poly.TagOf("a\x00") != poly.TagOf("a") {
		t.Error("what is too much counts, or what is missing is not zero")
	}
}

// TestListsAreLeftAlone: rule 5 for the list, and for what lies behind it in memory.
func TestListsAreLeftAlone(t *testing.T) {
	all := []string{"a", someBytes(64, 1), "c", "behind", "it"}
	before := slices.Clone(all)
	poly.Of(keyOf("key"), all[:3]...)
	poly.Of(keyOf("key"), all[:0]...)
	if !slices.Equal(all, before) {
		t.Errorf("the list changed: %q", all)
	}
}

// TestListsAreTheirElements: rule 7.
func TestListsAreTheirElements(t *testing.T) {
	l := []string{"one", "", "two", someBytes(33, 3)}
	if poly.Of(keyOf("key"), l...) != poly.Of(keyOf("key"), l[0], l[1], l[2], l[3]) {
		t.Error("a list has another tag than its elements")
	}
}
