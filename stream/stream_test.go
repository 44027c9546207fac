package stream_test

import (
	"encoding/hex"
	"math"
	"math/bits"
	"strings"
	"testing"

	"sealwax/stream"
)

const most = 1 << 16

// someBytes returns n bytes that go through all values.
func someBytes(n, seed int) string {
	out := make([]byte, n)
	for i := range out {
		out[i] = byte(i*11 + i/256 + seed)
	}
	return string(out)
}

// spoilt returns a text with one bit of a byte changed.
func spoilt(s string, place, bit int) string {
	out := []byte(s)
	out[place] ^= 1 << bit
	return string(out)
}

func unhex(t *testing.T, s string) string {
	t.Helper()
	out, err := hex.DecodeString(strings.ReplaceAll(s, " ", ""))
	if err != nil {
		t.Fatal(err)
	}
	return string(out)
}

// plainBlock is written apart from the program, with each quarter round spelt out.
func plainBlock(k stream.Key, counter uint32, n stream.Nonce) string {
	in := "expand 32-byte k" + string(k[:]) +
		string([]byte{byte(counter), byte(counter >> 8), byte(counter >> 16), byte(counter >> 24)}) + string(n[:])
	var x, first [16]uint32
	for i := range len(in) {
		first[i/4] |= uint32(in[i]) << (i % 4 * 8)
	}
	x = first
	turn := func(a, b, c, d *uint32) {
		*a += *b
		*d = bits.RotateLeft32(*d^*a, 16)
		*c += *d
		*b = bits.RotateLeft32(*b^*c, 12)
		*a += *b
		*d = bits.RotateLeft32(*d^*a, 8)
		*c += *d
		*b = bits.RotateLeft32(*b^*c, 7)
	}
	for range 10 {
		for i := range 4 {
			turn(&x[i], &x[4+i], &x[8+i], &x[12+i])
		}
		for i := range 4 {
			turn(&x[i], &x[4+(i+1)%4], &x[8+(i+2)%4], &x[12+(i+3)%4])
		}
	}
	var out []byte
	for i := range x {
		v := x[i] + first[i]
		out = append(out, byte(v), byte(v>>8), byte(v>>16), byte(v>>24))
	}
	return string(out)
}

// plainXor xors byte by byte.
func plainXor(k stream.Key, counter uint32, n stream.Nonce, s string) string {
	out := []byte(s)
	block := ""
	for i := range out {
		if i%64 == 0 {
			block = plainBlock(k, counter+uint32(i/64), n)
		}
		out[i] ^= block[i%64]
	}
	return string(out)
}

func TestKeyOf(t *testing.T) {
	text := someBytes(100, 1)
	for n := range len(text) + 1 {
		want := (text[:n] + strings.Repeat("\x00", 32))[:32]
		if n >= 32 {
			want = text[:32]
		}
		if k := stream.KeyOf(text[:n]); string(k[:]) != want {
			t.Errorf("%d bytes: got %x, want %x", n, k, want)
		}
	}
	if stream.KeyOf("") != (stream.Key{}) {
		t.Error("no bytes: not the zero key")
	}
	if stream.KeyOf("a\x00") != stream.KeyOf("a") || stream.KeyOf(someBytes(32, 0)) != stream.KeyOf(someBytes(1<<20, 0)) {
		t.Error("what is missing is not zero, or what is too much counts")
	}
}

func TestNonceOf(t *testing.T) {
	text := someBytes(40, 2)
	for n := range len(text) + 1 {
		want := (text[:n] + strings.Repeat("\x00", 12))[:12]
		if k := stream.NonceOf(text[:n]); string(k[:]) != want {
			t.Errorf("%d bytes: got %x, want %x", n, k, want)
		}
	}
	if stream.NonceOf("") != (stream.Nonce{}) {
		t.Error("no bytes: not the zero nonce")
	}
	if stream.NonceOf("\xff\x00") != stream.NonceOf("\xff") || stream.NonceOf(someBytes(12, 0)) != stream.NonceOf(someBytes(1<<20, 0)) {
		t.Error("what is missing is not zero, or what is too much counts")
	}
}

// TestBlockKnown: RFC 8439, 2.3.2 and A.1.
func TestBlockKnown(t *testing.T) {
	zeros := strings.Repeat("00", 32)
	for _, c := range []struct {
		key, nonce string
		counter    uint32
		want       string
	}{
		{"000102030405060708090a0b0c0d0e0f101112131415161718191a1b1c1d1e1f", "000000090000004a00000000", 1,
			"10f1e7e4d13b5915500fdd1fa32071c4c7d1f4c733c068030422aa9ac3d46c4ed2826446079faa0914c2d705d98b02a2b5129cd1de164eb9cbd083e8a2503c4e"},
		{zeros, zeros[:24], 0,
			"76b8e0ada0f13d90405d6ae55386bd28bdd219b8a08ded1aa836efcc8b770dc7da41597c5157488d7724e03fb8d84a376a43b8f41518a11cc387b669b2ee6586"},
		{zeros, zeros[:24], 1,
			"9f07e7be5551387a98ba977c732d080dcb0f29a048e3656912c6533e32ee7aed29b721769ce64e43d57133b074d839d531ed1f28510afb45ace10a1f4b794d6f"},
		{zeros[:62] + "01", zeros[:24], 1,
			"3aeb5224ecf849929b9d828db1ced4dd832025e8018b8160b82284f3c949aa5a8eca00bbb4a73bdad192b5c42f73f2fd4e273644c8b36125a64addeb006c13a0"},
		{"00ff" + zeros[:60], zeros[:24], 2,
			"72d54dfbf12ec44b362692df94137f328fea8da73990265ec1bbbea1ae9af0ca13b25aa26cb4a648cb9b9d1be65b2c0924a66c54d545ec1b7374f4872e99f096"},
		{zeros, zeros[:22] + "02", 0,
			"c2c64d378cd536374ae204b9ef933fcd1a8b2288b3dfa49672ab765b54ee27c78a970e0e955c14f3a88e741b97c286f75f8fc299e8148362fa198a39531bed6d"},
	} {
		b := stream.Block(stream.KeyOf(unhex(t, c.key)), c.counter, stream.NonceOf(unhex(t, c.nonce)))
		if string(b[:]) != unhex(t, c.want) {
			t.Errorf("key %s, nonce %s, counter %d: got %x, want %s", c.key, c.nonce, c.counter, b, c.want)
		}
	}
}

func TestBlockEveryInput(t *testing.T) {
	counters := []uint32{0, 1, 2, 255, 256, 1 << 16, 1 << 24, 1<<31 - 1, 1 << 31, math.MaxUint32}
	for seed := range 50 {
		k, n := stream.KeyOf(someBytes(seed, 3*seed)), stream.NonceOf(someBytes(seed/2, 7*seed))
		for _, counter := range counters {
			if b := stream.Block(k, counter, n); string(b[:]) != plainBlock(k, counter, n) {
				t.Fatalf("key %x, nonce %x, counter %d: got %x", k, n, counter, b)
			}
		}
	}
	k, n := stream.KeyOf(strings.Repeat("\xff", 32)), stream.NonceOf(strings.Repeat("\xff", 12))
	if b := stream.Block(k, math.MaxUint32, n); string(b[:]) != plainBlock(k, math.MaxUint32, n) {
		t.Errorf("all bits: got %x", b)
	}
}

// TestBlockEveryBit: each bit of the key, of the counter and of the nonce is used, and at its place.
func TestBlockEveryBit(t *testing.T) {
	key, nonce := someBytes(32, 5), someBytes(12, 9)
	seen := map[[64]byte]int{}
	try := func(k stream.Key, counter uint32, n stream.Nonce) {
		b := stream.Block(k, counter, n)
		seen[b]++
		if string(b[:]) != plainBlock(k, counter, n) {
			t.Errorf("key %x, nonce %x, counter %d: got %x", k, n, counter, b)
		}
	}
	try(stream.KeyOf(key), 0, stream.NonceOf(nonce))
	for bit := range 8 {
		for place := range len(key) {
			try(stream.KeyOf(spoilt(key, place, bit)), 0, stream.NonceOf(nonce))
		}
		for place := range len(nonce) {
			try(stream.KeyOf(key), 0, stream.NonceOf(spoilt(nonce, place, bit)))
		}
	}
	for bit := range 32 {
		try(stream.KeyOf(key), 1<<bit, stream.NonceOf(nonce))
	}
	if want := 1 + 8*(32+12) + 32; len(seen) != want {
		t.Errorf("%d blocks, want %d", len(seen), want)
	}
}

// TestXorKnown: RFC 8439, 2.4.2, and A.2 for a counter of 42.
func TestXorKnown(t *testing.T) {
	key := "000102030405060708090a0b0c0d0e0f101112131415161718191a1b1c1d1e1f"
	plain := "Ladies and Gentlemen of the class of '99: If I could offer you only one tip for the future, sunscreen would be it."
	want := "6e2e359a2568f98041ba0728dd0d6981e97e7aec1d4360c20a27afccfd9fae0bf91b65c5524733ab8f593dabcd62b3571639d624e65152ab8f530c359f0861d807ca0dbf500d6a6156a38e088a22b65e52bc514d16ccf806818ce91ab77937365af90bbf74a35be6b40b8eedf2785e42874d"
	got := stream.Xor(stream.KeyOf(unhex(t, key)), 1, stream.NonceOf(unhex(t, "000000000000004a00000000")), plain)
	if got != unhex(t, want) {
		t.Errorf("got %x, want %s", got, want)
	}
	key = "1c9240a5eb55d38af333888604f6b5f0473917c1402b80099dca5cbc207075c0"
	plain = "'Twas brillig, and the slithy toves\nDid gyre and gimble in the wabe:\nAll mimsy were the borogoves,\nAnd the mome raths outgrabe."
	want = "62e6347f95ed87a45ffae7426f27a1df5fb69110044c0d73118effa95b01e5cf166d3df2d721caf9b21e5fb14c616871fd84c54f9d65b283196c7fe4f60553ebf39c6402c42234e32a356b3e764312a61a5532055716ead6962568f87d3f3f7704c6a8d1bcd1bf4d50d6154b6da731b187b58dfd728afa36757a797ac188d1"
	got = stream.Xor(stream.KeyOf(unhex(t, key)), 42, stream.NonceOf(unhex(t, strings.Repeat("00", 11)+"02")), plain)
	if got != unhex(t, want) {
		t.Errorf("got %x, want %s", got, want)
	}
}

func lengths() []int {
	var out []int
	for n := range 200 {
		out = append(out, n)
	}
	return append(out, 255, 256, 257, 4095, 4096, 4097, most+1)
}

func TestXorEveryLength(t *testing.T) {
	k, n := stream.KeyOf("a key"), stream.NonceOf("once")
	for _, size := range lengths() {
		text := someBytes(size, size)
		got := stream.Xor(k, 3, n, text)
		if got != plainXor(k, 3, n, text) {
			t.Errorf("%d bytes: wrong ones", size)
		}
		if text != someBytes(size, size) {
			t.Errorf("%d bytes: the text changed", size)
		}
	}
	if stream.Xor(stream.Key{}, 0, stream.Nonce{}, "") != "" {
		t.Error("no bytes: got some")
	}
}

func TestXorWithoutAnyBit(t *testing.T) {
	want := plainBlock(stream.Key{}, 0, stream.Nonce{}) + plainBlock(stream.Key{}, 1, stream.Nonce{})
	if got := stream.Xor(stream.Key{}, 0, stream.Nonce{}, strings.Repeat("\x00", 128)); got != want {
		t.Errorf("zero bytes: got %x, want %x", got, want)
	}
}

func TestXorTwice(t *testing.T) {
	for _, size := range lengths() {
		k, n := stream.KeyOf(someBytes(size%40, 1)), stream.NonceOf(someBytes(size%15, 2))
		for _, counter := range []uint32{0, 1, 77, math.MaxUint32 - 1, math.MaxUint32} {
			text := someBytes(size, 5)
			if got := stream.Xor(k, counter, n, stream.Xor(k, counter, n, text)); got != text {
				t.Fatalf("%d bytes, counter %d: not the original", size, counter)
			}
		}
	}
}

// TestXorInParts: whole blocks at any place, and the counter that goes on behind the greatest one with 0.
func TestXorInParts(t *testing.T) {
	k, n := stream.KeyOf("a key"), stream.NonceOf("once")
	text := someBytes(9*64+17, 4)
	for _, counter := range []uint32{0, 1, 1000, 1<<31 - 3, math.MaxUint32 - 8, math.MaxUint32 - 3, math.MaxUint32} {
		whole := stream.Xor(k, counter, n, text)
		for i := range uint32(10) {
			if stream.Xor(k, counter, n, text[:64*i])+stream.Xor(k, counter+i, n, text[64*i:]) != whole {
				t.Errorf("counter %d: cut behind %d blocks, another text", counter, i)
			}
		}
		one := ""
		for i := range uint32(10) {
			one += stream.Xor(k, counter+i, n, text[64*i:min(64*i+64, uint32(len(text)))])
		}
		if one != whole {
			t.Errorf("counter %d: block by block, another text", counter)
		}
		for size := range len(text) {
			if stream.Xor(k, counter, n, text[:size]) != whole[:size] {
				t.Fatalf("counter %d: the first %d bytes are others", counter, size)
			}
		}
	}
}

func TestCounterGoesRound(t *testing.T) {
	k, n := stream.KeyOf("k"), stream.NonceOf("n")
	text := strings.Repeat("\x00", 192)
	want := plainBlock(k, math.MaxUint32, n) + plainBlock(k, 0, n) + plainBlock(k, 1, n)
	if stream.Xor(k, math.MaxUint32, n, text) != want || stream.Bytes(k, math.MaxUint32, n, 192) != want {
		t.Error("behind the greatest counter comes 0, with the same nonce")
	}
}

func TestBytes(t *testing.T) {
	k, n := stream.KeyOf("a key"), stream.NonceOf("once")
	for _, size := range append(lengths()[:206], 1000, most-64, most-1, most) {
		got := stream.Bytes(k, 9, n, size)
		if len(got) != size || got != plainXor(k, 9, n, strings.Repeat("\x00", size)) {
			t.Errorf("%d: %d bytes, or wrong ones", size, len(got))
		}
	}
	b := stream.Block(k, 9, n)
	if stream.Bytes(k, 9, n, 64) != string(b[:]) {
		t.Error("64 bytes are not the block")
	}
}

func TestBytesIsLimited(t *testing.T) {
	k, n := stream.KeyOf("a key"), stream.NonceOf("once")
	for _, count := range []int{0, -1, -64, -most, math.MinInt32, math.MinInt} {
		if got := stream.Bytes(k, 0, n, count); got != "" {
			t.Errorf("%d: %d bytes", count, len(got))
		}
	}
	whole := stream.Bytes(k, 0, n, most)
	for _, count := range []int{most + 1, most + 64, 1 << 20, math.MaxInt32, math.MaxInt} {
		if got := stream.Bytes(k, 0, n, count); got != whole || len(got) != most {
			t.Errorf("%d: %d bytes", count, len(got))
		}
	}
}

// TestKeysAreComparable: rule 10.
func TestKeysAreComparable(t *testing.T) {
	keys, nonces := map[stream.Key]int{}, map[stream.Nonce]int{}
	for i := range 100 {
		keys[stream.KeyOf(someBytes(32, i))] = i
		nonces[stream.NonceOf(someBytes(12, i))] = i
	}
	if len(keys) != 100 || keys[stream.KeyOf(someBytes(32, 42))] != 42 || len(nonces) != 100 || nonces[stream.NonceOf(someBytes(12, 42))] != 42 {
		t.Error("keys and nonces as keys of maps")
	}
}
