package wire

import "strings"

const maxFixed = 4096

// Out is what was written; a zero Out is empty.
type Out struct {
	last *part // a part never changes, so that a copy of an Out is one of its own
	size int
}

// part is what one call has written, behind what was written before.
type part struct {
	before *part
	bytes  string
}

// Num writes numbers, each in eight bytes, a negative one as 0.
func (o *Out) Num(l ...int) *Out {
	b := make([]byte, 0, numberSize*len(l))
	for _, n := range l {
		v := uint64(max(0, n))
		for i := range numberSize {
			b = append(b, byte(v>>(8*(numberSize-1-i))))
		}
	}
	return o.add(string(b))
}

// Text writes texts, each after its number of bytes.
func (o *Out) Text(l ...string) *Out {
	for _, s := range l {
		o.Num(len(s)).add(s)
	}
	return o
}

// Raw writes bytes unchanged.
func (o *Out) Raw(l ...string) *Out {
	return o.add(strings.Join(l, ""))
}

// Fixed writes the first n bytes (0 to 4096) of a text, extended with zero bytes.
func (o *Out) Fixed(s string, n int) *Out {
	n = max(0, min(n, maxFixed))
	taken := s[:min(n, len(s))]
	return o.add(taken + strings.Repeat("\x00", n-len(taken)))
}

// Bytes returns everything that was written.
func (o *Out) Bytes() string {
	out := make([]byte, o.size)
	end := o.size
	for p := o.last; p != nil; p = p.before {
		end -= len(p.bytes)
		copy(out[end:], p.bytes)
	}
	return string(out)
}

func (o *Out) add(s string) *Out {
	if s != "" {
		o.last = &part{before: o.last, bytes: s}
		o.size += len(s)
	}
	return o
}
