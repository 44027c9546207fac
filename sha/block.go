package sha

import "math/bits"

const (
	blockSize = 64
	rounds    = 64
)

type block [blockSize]byte

// numbers is the state less the first numbers. Every block adds to the state, so that the two differ by a sum, and a zero one needs no start.
type numbers [8]uint32

var first = [8]uint32{
	0x6a09e667, 0xbb67ae85, 0x3c6ef372, 0xa54ff53a, 0x510e527f, 0x9b05688c, 0x1f83d9ab, 0x5be0cd19,
}

var constants = [rounds]uint32{
	0x428a2f98, 0x71374491, 0xb5c0fbcf, 0xe9b5dba5, 0x3956c25b, 0x59f111f1, 0x923f82a4, 0xab1c5ed5,
	0xd807aa98, 0x12835b01, 0x243185be, 0x550c7dc3, 0x72be5d74, 0x80deb1fe, 0x9bdc06a7, 0xc19bf174,
	0xe49b69c1, 0xefbe4786, 0x0fc19dc6, 0x240ca1cc, 0x2de92c6f, 0x4a7484aa, 0x5cb0a9dc, 0x76f988da,
	0x983e5152, 0xa831c66d, 0xb00327c8, 0xbf597fc7, 0xc6e00bf3, 0xd5a79147, 0x06ca6351, 0x14292967,
	0x27b70a85, 0x2e1b2138, 0x4d2c6dfc, 0x53380d13, 0x650a7354, 0x766a0abb, 0x81c2c92e, 0x92722c85,
	0xa2bfe8a1, 0xa81a664b, 0xc24b8b70, 0xc76c51a3, 0xd192e819, 0xd6990624, 0xf40e3585, 0x106aa070,
	0x19a4c116, 0x1e376c08, 0x2748774c, 0x34b0bcb5, 0x391c0cb3, 0x4ed8aa4a, 0x5b9cca4f, 0x682e6ff3,
	0x748f82ee, 0x78a5636f, 0x84c87814, 0x8cc70208, 0x90befffa, 0xa4506ceb, 0xbef9a3f7, 0xc67178f2,
}

func right(x uint32, n int) uint32 { return bits.RotateLeft32(x, -n) }

// schedule returns the numbers W0 to W63 of a block.
func schedule(b block) [rounds]uint32 {
	var w [rounds]uint32
	for t := range 16 {
		p := 4 * t
		w[t] = uint32(b[p])<<24 | uint32(b[p+1])<<16 | uint32(b[p+2])<<8 | uint32(b[p+3])
	}
	for t := 16; t < rounds; t++ {
		x, y := w[t-15], w[t-2]
		w[t] = w[t-16] + w[t-7] +
			(right(x, 7) ^ right(x, 18) ^ x>>3) +
			(right(y, 17) ^ right(y, 19) ^ y>>10)
	}
	return w
}

// state returns the eight numbers of the state.
func (n numbers) state() numbers {
	for i := range n {
		n[i] += first[i]
	}
	return n
}

// after returns the numbers after one more block.
func (n numbers) after(text block) numbers {
	w := schedule(text)
	s := n.state()
	a, b, c, d, e, f, g, h := s[0], s[1], s[2], s[3], s[4], s[5], s[6], s[7]
	for t := range rounds {
		x := h + (right(e, 6) ^ right(e, 11) ^ right(e, 25)) + ((e & f) ^ (^e & g)) + constants[t] + w[t]
		y := (right(a, 2) ^ right(a, 13) ^ right(a, 22)) + ((a & b) ^ (a & c) ^ (b & c))
		a, b, c, d, e, f, g, h = x+y, a, b, c, d+x, e, f, g
	}
	for i, x := range [8]uint32{a, b, c, d, e, f, g, h} {
		n[i] += x
	}
	return n
}

// sum returns the bytes of the state.
func (n numbers) sum() Sum {
	var out Sum
	for i, x := range n.state() {
		for j := range 4 {
			out[4*i+j] = byte(x >> (24 - 8*j))
		}
	}
	return out
}
