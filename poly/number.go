package poly

const (
	limbs    = 5
	limbBits = 26
	limbMask = 1<<limbBits - 1
)

// number is the sum of its limbs, each times 2^26 to the power of its index. A limb can have more than 26 bits: sums and products fit, and are carried later.
type number [limbs]uint64

// numberOf returns the number of a block, the least significant byte first. It is below 2^130, so that its limbs have at most 26 bits.
func numberOf(b block) number {
	var n number
	for i, x := range b {
		n[8*i/limbBits] += uint64(x) << (8 * i % limbBits)
	}
	return n.spread()
}

// spread moves what exceeds 26 bits to the next limb; the last one keeps it.
func (n number) spread() number {
	for i := range limbs - 1 {
		n[i+1] += n[i] >> limbBits
		n[i] &= limbMask
	}
	return n
}

// carried moves what exceeds 26 bits also from the last limb to the first, five times: 2^130 is 5.
func (n number) carried() number {
	n = n.spread()
	n[0] += 5 * (n[limbs-1] >> limbBits)
	n[limbs-1] &= limbMask
	return n
}

func (n number) plus(m number) number {
	for i, x := range m {
		n[i] += x
	}
	return n
}

// times returns the product modulo 2^130 - 5, but maybe not the least such number. Limbs of at most 28 bits give sums below 2^61; after two carries the first limb is at most 2^26 + 4, and the others have at most 26 bits.
func (n number) times(m number) number {
	var out number
	for i, x := range n {
		for j, y := range m {
			if i+j < limbs {
				out[i+j] += x * y
			} else {
				out[i+j-limbs] += 5 * x * y
			}
		}
	}
	return out.carried().carried()
}

// least returns the least number that equals, modulo 2^130 - 5, one that times returned, or 0. Such a number is below 2^130 + 5, so that one subtraction is enough.
func (n number) least() number {
	more := n // 5 more: 2^130 is reached if and only if 2^130 - 5 was
	more[0] += 5
	more = more.spread()
	if more[limbs-1]>>limbBits == 0 {
		return n
	}
	more[limbs-1] &= limbMask
	return more
}

// low returns the lowest 16 bytes.
func (n number) low() Tag {
	n = n.spread()
	var out Tag
	for i := range out {
		at, by := 8*i/limbBits, 8*i%limbBits
		x := n[at] >> by
		if at+1 < limbs {
			x |= n[at+1] << (limbBits - by)
		}
		out[i] = byte(x)
	}
	return out
}
