package names

import (
	"strings"

	"sealwax/api"
	"sealwax/wire"
)

// Pack returns the bytes from which Read makes the same names.
func (n *Names) Pack() string {
	var out wire.Out
	out.Num(n.next, len(n.numbers))
	for _, name := range n.List() {
		out.Fixed(name, api.MaxName).Num(n.numbers[name])
	}
	return out.Bytes()
}

// Read is the reverse of Pack.
func Read(in *wire.In) (*Names, api.Errno) {
	n := New()
	next, count := in.Num(), in.Num()
	if next < 1 || next > api.MaxCount || count > api.MaxBoxes {
		in.Fail(api.ErrForm)
	}
	n.next = next
	last := ""
	for i := 0; i < count && in.Err() == api.OK; i++ {
		last = n.readAfter(last, in)
	}
	if e := in.Err(); e != api.OK {
		return nil, e
	}
	return n, api.OK
}

// readAfter reads a name and its number, and returns the name.
func (n *Names) readAfter(last string, in *wire.In) string {
	name, id := strings.TrimRight(in.Raw(api.MaxName), "\x00"), in.Num()
	_, used := n.Name(id)
	if !Check(name) || name <= last || id < 1 || id >= n.next || used {
		in.Fail(api.ErrForm)
	}
	n.numbers[name] = id
	return name
}
