package stream

import "math/bits"

const (
	blockSize = 64
	rounds    = 10
)

// numbers is what a block is computed with.
type numbers [16]uint32

// quarters are the indices of the quarter rounds of a round, in their order: the columns of a square of numbers, then its diagonals.
var quarters = [8][4]int{
	{0, 4, 8, 12}, {1, 5, 9, 13}, {2, 6, 10, 14}, {3, 7, 11, 15},
	{0, 5, 10, 15}, {1, 6, 11, 12}, {2, 7, 8, 13}, {3, 4, 9, 14},
}

// start returns the initial numbers.
func start(k Key, counter uint32, n Nonce) numbers {
	x := numbers{0x61707865, 0x3320646e, 0x79622d32, 0x6b206574, 12: counter}
	for i := range 8 {
		x[4+i] = number(k[4*i:])
	}
	for i := range 3 {
		x[13+i] = number(n[4*i:])
	}
	return x
}

// number returns the number of the first four bytes.
func number(b []byte) uint32 {
	return uint32(b[0]) | uint32(b[1])<<8 | uint32(b[2])<<16 | uint32(b[3])<<24
}

func (x *numbers) round() {
	for _, q := range quarters {
		x.quarter(q[0], q[1], q[2], q[3])
	}
}

func (x *numbers) quarter(a, b, c, d int) {
	x.mix(a, b, d, 16)
	x.mix(c, d, b, 12)
	x.mix(a, b, d, 8)
	x.mix(c, d, b, 7)
}

// mix is the step that a quarter round repeats: one number is added to another one, which turns a third one.
func (x *numbers) mix(sum, other, turned, by int) {
	x[sum] += x[other]
	x[turned] = bits.RotateLeft32(x[turned]^x[sum], by)
}

func (x numbers) bytes() [blockSize]byte {
	var out [blockSize]byte
	for i, v := range x {
		for j := range 4 {
			out[4*i+j] = byte(v >> (8 * j))
		}
	}
	return out
}
