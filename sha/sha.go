// Package sha is layer 1: SHA-256, the hash on which all others rest.
package sha

// Sum is a hash.
type Sum [32]byte

const digits = "0123456789abcdef"

// Of returns the hash of the concatenation of all texts.
func Of(l ...string) Sum {
	var s State
	return s.Add(l...).Sum()
}

// Hex returns the hash as 64 hexadecimal digits.
func (s Sum) Hex() string {
	out := make([]byte, 0, 2*len(s))
	for _, b := range s {
		out = append(out, digits[b>>4], digits[b&15])
	}
	return string(out)
}

// State receives texts in order. A zero State has received none.
type State struct {
	added numbers // what blocks have added to the first numbers: none yet in a zero State
	rest  block   // its first count%blockSize bytes wait for the block to be whole
	count int
}

// Add adds texts and returns the same State.
func (s *State) Add(l ...string) *State {
	for _, text := range l {
		s.take(text)
	}
	return s
}

func (s *State) take(text string) {
	for len(text) > 0 {
		n := copy(s.rest[s.count%blockSize:], text)
		s.count += n
		text = text[n:]
		if s.count%blockSize == 0 {
			s.added = s.added.after(s.rest)
		}
	}
}

// Sum returns the hash of everything that was added.
func (s *State) Sum() Sum {
	whole := *s // the ending goes into a copy, so that more can be added to s
	whole.take(ending(s.count))
	return whole.added.sum()
}

// Len returns the number of bytes that were added.
func (s *State) Len() int { return s.count }

// Clone returns an independent copy.
func (s *State) Clone() *State {
	c := *s
	return &c
}

// ending returns what must follow count bytes so that whole blocks result.
func ending(count int) string {
	const mark, length = 1, 8
	zeros := (2*blockSize - mark - length - count%blockSize) % blockSize
	out := make([]byte, mark+zeros+length)
	out[0] = 0x80
	bits := uint64(count) * 8
	for i := range length {
		out[len(out)-1-i] = byte(bits >> (8 * i))
	}
	return string(out)
}
