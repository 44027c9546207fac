package box

import (
	"sealwax/api"
	"sealwax/wire"
)

// Pack returns the bytes from which Read makes the same mailbox.
func (b *Box) Pack() string {
	var out wire.Out
	out.Num(b.validity, b.next, len(b.entries))
	for _, e := range b.entries {
		out.Num(e.UID, e.Flags, e.Mail)
	}
	return out.Bytes()
}

// Read is the reverse of Pack.
func Read(in *wire.In) (*Box, api.Errno) {
	validity, next, count := in.Num(), in.Num(), in.Num()
	if !isCount(validity) || !isCount(next) || count > Most {
		in.Fail(api.ErrForm)
	}
	b := New(validity)
	b.next = next
	last := 0 // no mailbox has an entry 0: the first UID is 1
	for i := 0; i < count && in.Err() == api.OK; i++ {
		last = b.readAfter(last, in)
	}
	if e := in.Err(); e != api.OK {
		return nil, e
	}
	return b, api.OK
}

// readAfter reads an entry, and returns its UID.
func (b *Box) readAfter(last int, in *wire.In) int {
	uid, flags, mail := in.Num(), in.Num(), in.Num()
	if uid <= last || uid >= b.next || !areFlags(flags) || !isCount(mail) {
		in.Fail(api.ErrForm)
	}
	b.entries = append(b.entries, Entry{UID: uid, Flags: flags, Mail: mail})
	return uid
}
