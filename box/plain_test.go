package box_test

import (
	"encoding/binary"
	"math"
	"slices"
	"strings"
	"testing"

	"sealwax/api"
	"sealwax/box"
	"sealwax/wire"
)

const most = 1 << 40

// plain is a mailbox that is written apart from the program: entries by their UIDs, and which flags are set, one by one.
type plain struct {
	validity, next int
	mails          map[int]int
	flags          map[int]map[int]bool // by UID and flag
}

func newPlain(validity, next int) *plain {
	return &plain{validity: validity, next: next, mails: map[int]int{}, flags: map[int]map[int]bool{}}
}

func (p *plain) clone() *plain {
	q := newPlain(p.validity, p.next)
	for uid, mail := range p.mails {
		q.mails[uid] = mail
		q.flags[uid] = map[int]bool{}
		for f, is := range p.flags[uid] {
			q.flags[uid][f] = is
		}
	}
	return q
}

func (p *plain) entry(uid int) box.Entry {
	e := box.Entry{UID: uid, Mail: p.mails[uid]}
	for _, f := range []int{1, 2, 4, 8, 16} {
		if p.flags[uid][f] {
			e.Flags += f
		}
	}
	return e
}

func (p *plain) turn(uid, flags int, on bool) {
	for _, f := range []int{1, 2, 4, 8, 16} {
		if flags/f%2 == 1 {
			p.flags[uid][f] = on
		}
	}
}

func (p *plain) add(mail, flags int) (box.Entry, api.Errno) {
	switch {
	case mail < 1, mail > most, flags < 0, flags > 31:
		return box.Entry{}, api.ErrArg
	case len(p.mails) == 256:
		return box.Entry{}, api.ErrFull
	}
	uid := p.next
	p.next++
	p.mails[uid], p.flags[uid] = mail, map[int]bool{}
	p.turn(uid, flags, true)
	return p.entry(uid), api.OK
}

func (p *plain) get(uid int) (box.Entry, api.Errno) {
	if p.mails[uid] == 0 {
		return box.Entry{}, api.ErrNone
	}
	return p.entry(uid), api.OK
}

func (p *plain) set(uid, on, off int) (box.Entry, api.Errno) {
	if _, e := p.get(uid); e != api.OK {
		return box.Entry{}, e
	}
	if on < 0 || on > 31 || off < 0 || off > 31 {
		return box.Entry{}, api.ErrArg
	}
	p.turn(uid, off, false)
	p.turn(uid, on, true)
	return p.get(uid)
}

func (p *plain) remove(uid int) (box.Entry, api.Errno) {
	entry, e := p.get(uid)
	delete(p.mails, uid)
	delete(p.flags, uid)
	return entry, e
}

func (p *plain) list() []box.Entry {
	var out []box.Entry
	for uid := range p.mails {
		out = append(out, p.entry(uid))
	}
	slices.SortFunc(out, func(a, b box.Entry) int { return a.UID - b.UID })
	return out
}

func (p *plain) expunge() []box.Entry {
	var out []box.Entry
	for _, e := range p.list() {
		if p.flags[e.UID][8] {
			out = append(out, e)
			p.remove(e.UID)
		}
	}
	return out
}

func (p *plain) unseen() int {
	n := len(p.mails)
	for uid := range p.mails {
		if p.flags[uid][1] {
			n--
		}
	}
	return n
}

func (p *plain) pack() string { return pack(p.validity, p.next, p.list()...) }

// pack returns the bytes of a mailbox.
func pack(validity, next int, l ...box.Entry) string {
	out := head(validity, next, len(l))
	for _, e := range l {
		out += entry(e.UID, e.Flags, e.Mail)
	}
	return out
}

// num returns the bytes of a number.
func num(n int) string { return string(binary.BigEndian.AppendUint64(nil, uint64(n))) }

func zeros(n int) string { return strings.Repeat("\x00", n) }

func head(validity, next, count int) string { return num(validity) + num(next) + num(count) }

func entry(uid, flags, mail int) string { return num(uid) + num(flags) + num(mail) }

// plainNums returns three numbers that begin at a place.
func plainNums(s string, at int) ([3]int, api.Errno) {
	var out [3]int
	for i := range out {
		if len(s)-at < 8*(i+1) {
			return out, api.ErrEnd
		}
		n := binary.BigEndian.Uint64([]byte(s[at+8*i:]))
		if n > math.MaxInt {
			return out, api.ErrForm
		}
		out[i] = int(n)
	}
	return out, api.OK
}

// plainRead is a reader that is written apart from the program. It returns how many bytes the mailbox has, or which error there is.
func plainRead(s string) (int, api.Errno) {
	x, e := plainNums(s, 0)
	if e != api.OK {
		return 0, e
	}
	next, count := x[1], x[2]
	if x[0] == 0 || x[0] > most || next == 0 || next > most || count > 256 {
		return 0, api.ErrForm
	}
	uids := []int{0} // no mailbox has an entry 0
	for i := range count {
		x, e := plainNums(s, 24+24*i)
		if e != api.OK {
			return 0, e
		}
		if slices.Max(uids) >= x[0] || next <= x[0] || x[1] >= 32 || x[2] == 0 || x[2] > most {
			return 0, api.ErrForm
		}
		uids = append(uids, x[0])
	}
	return 24 + 24*count, api.OK
}

// want compares results.
func want[T comparable](t *testing.T, what string, got, wanted T) {
	t.Helper()
	if got != wanted {
		t.Errorf("%s: got %v, want %v", what, got, wanted)
	}
}

// wantEntry compares what a call returned, as entry and error.
func wantEntry(t *testing.T, what string, got box.Entry, e api.Errno, wantedEntry box.Entry, wanted api.Errno) {
	t.Helper()
	if got != wantedEntry || e != wanted {
		t.Errorf("%s: got %v, error %d, want %v, error %d", what, got, e, wantedEntry, wanted)
	}
}

func wantEntries(t *testing.T, what string, got []box.Entry, wanted ...box.Entry) {
	t.Helper()
	if !slices.Equal(got, wanted) {
		t.Errorf("%s: got %v, want %v", what, got, wanted)
	}
}

// wantAlike compares everything that a mailbox tells.
func wantAlike(t *testing.T, b *box.Box, p *plain) {
	t.Helper()
	wantEntries(t, "List", b.List(), p.list()...)
	want(t, "Next", b.Next(), p.next)
	want(t, "Validity", b.Validity(), p.validity)
	want(t, "Unseen", b.Unseen(), p.unseen())
	want(t, "Pack", b.Pack(), p.pack())
	uids := []int{-1, 0, p.next, p.next + 1}
	for uid := max(1, p.next-30); uid < p.next; uid++ {
		uids = append(uids, uid)
	}
	for _, uid := range uids {
		got, e := b.Get(uid)
		wanted, we := p.get(uid)
		wantEntry(t, "Get", got, e, wanted, we)
	}
}

// wantRead checks that these are the bytes of a mailbox, whatever is before and behind them, and returns it.
func wantRead(t *testing.T, packed string) *box.Box {
	t.Helper()
	for _, behind := range []string{"", "\x00", "more of it", packed} {
		in := wire.Of(num(7) + packed + behind)
		in.Num()
		b, e := box.Read(in)
		if e != api.OK || b == nil {
			t.Fatalf("Read %.200q: error %d", packed, e)
		}
		want(t, "Pack again", b.Pack(), packed)
		want(t, "what is behind", in.Raw(len(behind)), behind)
		want(t, "End", in.End(), api.OK)
	}
	b, _ := box.Read(wire.Of(packed))
	return b
}

// wantNoRead checks that these bytes are none of a mailbox, and that their reader has failed.
func wantNoRead(t *testing.T, packed string, wanted api.Errno) {
	t.Helper()
	in := wire.Of(num(7) + packed)
	in.Num()
	b, e := box.Read(in)
	if e != wanted || b != nil {
		t.Errorf("Read %.200q: got %v, error %d, want error %d", packed, b, e, wanted)
	}
	want(t, "Err", in.Err(), wanted)
	want(t, "Left", in.Left(), 0)
	want(t, "End", in.End(), wanted)
}
