package box_test

import (
	"math"
	"testing"

	"sealwax/api"
	"sealwax/box"
	"sealwax/wire"
)

// of returns a mailbox with the validity 9 and an entry for each of these flags, whose mails are 101 and so on.
func of(t *testing.T, flags ...int) *box.Box {
	t.Helper()
	b := box.New(9)
	for i, f := range flags {
		e, err := b.Add(101+i, f)
		wantEntry(t, "Add", e, err, box.Entry{UID: i + 1, Flags: f, Mail: 101 + i}, api.OK)
	}
	return b
}

// wantSet checks the result of Set, what the entry is then, and that nothing has changed if it is an error.
func wantSet(t *testing.T, b *box.Box, uid, on, off int, wantedEntry box.Entry, wanted api.Errno) {
	t.Helper()
	before := b.Pack()
	e, err := b.Set(uid, on, off)
	wantEntry(t, "Set", e, err, wantedEntry, wanted)
	if wanted != api.OK {
		want(t, "Pack", b.Pack(), before)
		return
	}
	e, err = b.Get(uid)
	wantEntry(t, "Get", e, err, wantedEntry, api.OK)
}

func wantRemove(t *testing.T, b *box.Box, uid int, wantedEntry box.Entry, wanted api.Errno) {
	t.Helper()
	before := b.Pack()
	e, err := b.Remove(uid)
	wantEntry(t, "Remove", e, err, wantedEntry, wanted)
	want(t, "changed", b.Pack() != before, wanted == api.OK)
	e, err = b.Get(uid)
	wantEntry(t, "Get", e, err, box.Entry{}, api.ErrNone)
}

func wantAdd(t *testing.T, b *box.Box, mail, flags int, wantedEntry box.Entry, wanted api.Errno) {
	t.Helper()
	before := b.Pack()
	e, err := b.Add(mail, flags)
	wantEntry(t, "Add", e, err, wantedEntry, wanted)
	want(t, "changed", b.Pack() != before, wanted == api.OK)
}

func TestExample(t *testing.T) {
	b := box.New(1)
	wantAdd(t, b, 7, 0, box.Entry{UID: 1, Mail: 7}, api.OK)
	wantSet(t, b, 1, 8, 0, box.Entry{UID: 1, Flags: 8, Mail: 7}, api.OK)
	wantEntries(t, "Expunge", b.Expunge(), box.Entry{UID: 1, Flags: 8, Mail: 7})
	wantEntries(t, "List", b.List())
}

func TestConstants(t *testing.T) {
	want(t, "the flags", [5]int{box.Seen, box.Answered, box.Flagged, box.Deleted, box.Draft}, [5]int{1, 2, 4, 8, 16})
	want(t, "All and Most", [2]int{box.All, box.Most}, [2]int{31, 256})
}

func TestNew(t *testing.T) {
	for _, k := range [][2]int{{1, 1}, {2, 2}, {9, 9}, {1 << 32, 1 << 32}, {most - 1, most - 1}, {most, most}, {most + 1, most}, {math.MaxInt, most}, {0, 1}, {-1, 1}, {math.MinInt, 1}} {
		b := box.New(k[0])
		want(t, "Validity", b.Validity(), k[1])
		want(t, "Next", b.Next(), 1)
		want(t, "Unseen", b.Unseen(), 0)
		want(t, "Pack", b.Pack(), head(k[1], 1, 0))
		wantEntries(t, "List", b.List())
		wantEntries(t, "Expunge", b.Expunge())
		for _, uid := range []int{0, 1, 2, -1, math.MaxInt, math.MinInt} {
			e, err := b.Get(uid)
			wantEntry(t, "Get", e, err, box.Entry{}, api.ErrNone)
			wantSet(t, b, uid, 1, 1, box.Entry{}, api.ErrNone)
			wantRemove(t, b, uid, box.Entry{}, api.ErrNone)
		}
		wantRead(t, b.Pack())
	}
}

// TestAdd: each sum of flags, and mails of 1 to 2^40, also the same one again.
func TestAdd(t *testing.T) {
	b := box.New(9)
	for flags := range 32 {
		wantAdd(t, b, 5, flags, box.Entry{UID: flags + 1, Flags: flags, Mail: 5}, api.OK)
	}
	for i, mail := range []int{1, 2, 1 << 32, most - 1, most, 1} {
		wantAdd(t, b, mail, i, box.Entry{UID: 33 + i, Flags: i, Mail: mail}, api.OK)
	}
	want(t, "Next", b.Next(), 39)
	want(t, "Validity", b.Validity(), 9)
	want(t, "entries", len(b.List()), 38)
}

func TestAddWrong(t *testing.T) {
	b := of(t, 3)
	for _, mail := range []int{0, -1, most + 1, most + 2, math.MaxInt, math.MinInt} {
		for _, flags := range []int{0, 1, 31, 32, -1} {
			wantAdd(t, b, mail, flags, box.Entry{}, api.ErrArg)
		}
	}
	for _, flags := range []int{32, 33, 63, 64, 256, -1, -32, math.MaxInt, math.MinInt} {
		for _, mail := range []int{1, most, 0} {
			wantAdd(t, b, mail, flags, box.Entry{}, api.ErrArg)
		}
	}
	wantAdd(t, b, 1, 0, box.Entry{UID: 2, Mail: 1}, api.OK)
}

// TestFull: there are 256 entries at most, and ErrArg comes first. What was removed makes room, but its UID is not used again (P18.2).
func TestFull(t *testing.T) {
	b := box.New(1)
	for i := range 256 {
		wantAdd(t, b, i+1, i%32, box.Entry{UID: i + 1, Flags: i % 32, Mail: i + 1}, api.OK)
	}
	wantAdd(t, b, 1, 0, box.Entry{}, api.ErrFull)
	wantAdd(t, b, most, 31, box.Entry{}, api.ErrFull)
	wantAdd(t, b, 0, 0, box.Entry{}, api.ErrArg)
	wantAdd(t, b, 1, 32, box.Entry{}, api.ErrArg)
	want(t, "Next", b.Next(), 257)
	wantRead(t, b.Pack())
	wantRemove(t, b, 256, box.Entry{UID: 256, Flags: 31, Mail: 256}, api.OK)
	wantAdd(t, b, 5, 8, box.Entry{UID: 257, Flags: 8, Mail: 5}, api.OK)
	wantAdd(t, b, 5, 8, box.Entry{}, api.ErrFull)
	wantSet(t, b, 1, 8, 0, box.Entry{UID: 1, Flags: 8, Mail: 1}, api.OK)
	removed := b.Expunge()
	want(t, "removed", len(removed), 129)
	want(t, "the first one", removed[0], box.Entry{UID: 1, Flags: 8, Mail: 1})
	want(t, "the last one", removed[128], box.Entry{UID: 257, Flags: 8, Mail: 5})
	for i := range 129 {
		wantAdd(t, b, 6, 0, box.Entry{UID: 258 + i, Mail: 6}, api.OK)
	}
	wantAdd(t, b, 6, 0, box.Entry{}, api.ErrFull)
	want(t, "Next", b.Next(), 387)
	wantRead(t, b.Pack())
}

// TestSet: first the flags of off are cleared, then those of on are set; for all flags that an entry can have.
func TestSet(t *testing.T) {
	for flags := range 32 {
		for on := range 32 {
			for off := range 32 {
				b := of(t, 5, flags, 6)
				wanted := 0
				for _, f := range []int{1, 2, 4, 8, 16} {
					had, cleared, set := flags/f%2 == 1, off/f%2 == 1, on/f%2 == 1
					if set || had && !cleared {
						wanted += f
					}
				}
				e, err := b.Set(2, on, off)
				wantEntry(t, "Set", e, err, box.Entry{UID: 2, Flags: wanted, Mail: 102}, api.OK)
				wantEntries(t, "List", b.List(), box.Entry{UID: 1, Flags: 5, Mail: 101}, e, box.Entry{UID: 3, Flags: 6, Mail: 103})
			}
		}
	}
}

// TestSetWrong: ErrNone comes first.
func TestSetWrong(t *testing.T) {
	b := of(t, 5, 6, 7)
	wantRemove(t, b, 2, box.Entry{UID: 2, Flags: 6, Mail: 102}, api.OK)
	for _, wrong := range []int{32, 33, 64, 1 << 40, -1, -32, math.MaxInt, math.MinInt} {
		for _, fine := range []int{0, 1, 31} {
			wantSet(t, b, 1, wrong, fine, box.Entry{}, api.ErrArg)
			wantSet(t, b, 3, fine, wrong, box.Entry{}, api.ErrArg)
			wantSet(t, b, 3, wrong, wrong, box.Entry{}, api.ErrArg)
		}
		for _, uid := range []int{0, 2, 4, -1, 101, math.MaxInt, math.MinInt} {
			wantSet(t, b, uid, wrong, 0, box.Entry{}, api.ErrNone)
			wantSet(t, b, uid, 0, wrong, box.Entry{}, api.ErrNone)
			wantSet(t, b, uid, 0, 0, box.Entry{}, api.ErrNone)
		}
	}
	want(t, "Next", b.Next(), 4)
}

// TestRemove: each entry of some, then all of them.
func TestRemove(t *testing.T) {
	all := []box.Entry{{UID: 1, Flags: 1, Mail: 101}, {UID: 2, Flags: 8, Mail: 102}, {UID: 3, Mail: 103}, {UID: 4, Flags: 31, Mail: 104}}
	for i, e := range all {
		b := of(t, 1, 8, 0, 31)
		wantRemove(t, b, i+1, e, api.OK)
		var left []box.Entry
		for _, x := range all {
			if x != e {
				left = append(left, x)
			}
		}
		wantEntries(t, "List", b.List(), left...)
		wantRemove(t, b, i+1, box.Entry{}, api.ErrNone)
		for _, uid := range []int{0, -1, 5, 101, math.MaxInt, math.MinInt} {
			wantRemove(t, b, uid, box.Entry{}, api.ErrNone)
		}
		wantAdd(t, b, 7, 2, box.Entry{UID: 5, Flags: 2, Mail: 7}, api.OK)
		wantEntries(t, "List", b.List(), append(left, box.Entry{UID: 5, Flags: 2, Mail: 7})...)
	}
	b := of(t, 1, 8, 0, 31)
	for _, i := range []int{2, 0, 3, 1} {
		wantRemove(t, b, i+1, all[i], api.OK)
	}
	want(t, "Pack", b.Pack(), head(9, 5, 0))
	wantAdd(t, b, 7, 2, box.Entry{UID: 5, Flags: 2, Mail: 7}, api.OK)
}

// TestExpunge: all entries with Deleted, whatever other flags they have, and no others.
func TestExpunge(t *testing.T) {
	b := box.New(9)
	var deleted, left []box.Entry
	for flags := range 32 {
		e, _ := b.Add(5, flags)
		if flags/8%2 == 1 {
			deleted = append(deleted, e)
		} else {
			left = append(left, e)
		}
	}
	wantEntries(t, "Expunge", b.Expunge(), deleted...)
	wantEntries(t, "List", b.List(), left...)
	wantEntries(t, "Expunge again", b.Expunge())
	wantEntries(t, "List", b.List(), left...)
	for _, e := range deleted {
		got, err := b.Get(e.UID)
		wantEntry(t, "Get", got, err, box.Entry{}, api.ErrNone)
	}
	want(t, "Next", b.Next(), 33)
	want(t, "Validity", b.Validity(), 9)
	wantAdd(t, b, 5, 8, box.Entry{UID: 33, Flags: 8, Mail: 5}, api.OK)
	wantEntries(t, "Expunge", b.Expunge(), box.Entry{UID: 33, Flags: 8, Mail: 5})
	b = of(t, 8, 9, 31)
	want(t, "removed", len(b.Expunge()), 3)
	want(t, "Pack", b.Pack(), head(9, 4, 0))
}

func TestUnseen(t *testing.T) {
	b := box.New(9)
	for flags := range 32 {
		b.Add(5, flags)
		want(t, "Unseen", b.Unseen(), flags/2+1)
	}
	b.Set(1, 30, 0)
	want(t, "Unseen", b.Unseen(), 16)
	b.Set(1, 1, 0)
	want(t, "Unseen", b.Unseen(), 15)
	b.Set(2, 0, 1)
	b.Set(4, 0, 31)
	want(t, "Unseen", b.Unseen(), 17)
	b.Remove(2)
	b.Remove(6)
	want(t, "Unseen", b.Unseen(), 16)
	b.Expunge()
	want(t, "Unseen", b.Unseen(), 8)
}

// TestClone: what is done to one is not seen in the other.
func TestClone(t *testing.T) {
	b := of(t, 1, 8, 0)
	packed := b.Pack()
	for range 3 {
		c := b.Clone()
		want(t, "Pack of the copy", c.Pack(), packed)
		wantAdd(t, c, 7, 8, box.Entry{UID: 4, Flags: 8, Mail: 7}, api.OK)
		wantSet(t, c, 1, 4, 1, box.Entry{UID: 1, Flags: 4, Mail: 101}, api.OK)
		want(t, "Pack", b.Pack(), packed)
		wantRemove(t, c, 1, box.Entry{UID: 1, Flags: 4, Mail: 101}, api.OK)
		want(t, "Pack", b.Pack(), packed)
		want(t, "removed", len(c.Expunge()), 2)
		want(t, "Pack", b.Pack(), packed)
	}
	c := b.Clone()
	d := c.Clone()
	wantAdd(t, b, 7, 0, box.Entry{UID: 4, Mail: 7}, api.OK)
	wantAdd(t, c, 8, 1, box.Entry{UID: 4, Flags: 1, Mail: 8}, api.OK)
	wantSet(t, b, 3, 16, 0, box.Entry{UID: 3, Flags: 16, Mail: 103}, api.OK)
	wantRemove(t, b, 1, box.Entry{UID: 1, Flags: 1, Mail: 101}, api.OK)
	b.Expunge()
	wantEntries(t, "List", b.List(), box.Entry{UID: 3, Flags: 16, Mail: 103}, box.Entry{UID: 4, Mail: 7})
	wantEntries(t, "List", c.List(), box.Entry{UID: 1, Flags: 1, Mail: 101}, box.Entry{UID: 2, Flags: 8, Mail: 102}, box.Entry{UID: 3, Mail: 103}, box.Entry{UID: 4, Flags: 1, Mail: 8})
	want(t, "Pack of the copy", d.Pack(), packed)
	empty := box.New(5)
	other := empty.Clone()
	other.Add(1, 1)
	want(t, "Pack", empty.Pack(), head(5, 1, 0))
	empty.Add(2, 2)
	want(t, "Pack of the copy", other.Pack(), pack(5, 2, box.Entry{UID: 1, Flags: 1, Mail: 1}))
}

// TestTellingChangesNothing: and its results are new memory.
func TestTellingChangesNothing(t *testing.T) {
	b := of(t, 1, 8, 0)
	packed := b.Pack()
	for range 3 {
		l, other := b.List(), b.List()
		clear(l)
		_ = append(l[:1], box.Entry{UID: 5})
		_ = append(l, box.Entry{UID: 6, Mail: 6})
		wantEntries(t, "the other list", other, box.Entry{UID: 1, Flags: 1, Mail: 101}, box.Entry{UID: 2, Flags: 8, Mail: 102}, box.Entry{UID: 3, Mail: 103})
		b.Get(1)
		b.Get(9)
		b.Next()
		b.Unseen()
		b.Validity()
		b.Clone()
		want(t, "Pack", b.Pack(), packed)
	}
	b.Set(3, 8, 0)
	l := b.Expunge()
	packed = b.Pack()
	clear(l)
	_ = append(l[:0], box.Entry{UID: 5}, box.Entry{UID: 6})
	want(t, "Pack", b.Pack(), packed)
	b.Add(1, 2)
	want(t, "what was returned", l[0], box.Entry{UID: 5})
}

// TestKeys: entries are compared with ==, and are keys of maps (rule 10).
func TestKeys(t *testing.T) {
	b := of(t, 1, 8)
	m := map[box.Entry]int{}
	for range 2 {
		for _, e := range b.List() {
			m[e]++
		}
	}
	want(t, "keys", len(m), 2)
	want(t, "times", m[box.Entry{UID: 2, Flags: 8, Mail: 102}], 2)
}

// TestPack: the encoding, byte by byte.
func TestPack(t *testing.T) {
	b := box.New(258)
	b.Add(7, 31)
	b.Add(8, 0)
	b.Add(most, 5)
	b.Remove(2)
	want(t, "Pack", b.Pack(), zeros(6)+"\x01\x02"+zeros(7)+"\x04"+zeros(7)+"\x02"+
		zeros(7)+"\x01"+zeros(7)+"\x1f"+zeros(7)+"\x07"+
		zeros(7)+"\x03"+zeros(7)+"\x05"+"\x00\x00\x01"+zeros(5))
	for n := range 20 {
		b := of(t, make([]int, n)...)
		want(t, "bytes", len(b.Pack()), 24+24*n)
		wantRead(t, b.Pack())
	}
}

// TestReadAgain: what was read goes on as what was packed, and is independent of it.
func TestReadAgain(t *testing.T) {
	b := of(t, 1, 8, 0)
	wantRemove(t, b, 2, box.Entry{UID: 2, Flags: 8, Mail: 102}, api.OK)
	packed := b.Pack()
	c, d := wantRead(t, packed), wantRead(t, packed)
	for _, o := range []*box.Box{c, b, d.Clone()} {
		want(t, "Validity", o.Validity(), 9)
		want(t, "Next", o.Next(), 4)
		want(t, "Unseen", o.Unseen(), 1)
		wantEntries(t, "List", o.List(), box.Entry{UID: 1, Flags: 1, Mail: 101}, box.Entry{UID: 3, Mail: 103})
		wantAdd(t, o, 7, 8, box.Entry{UID: 4, Flags: 8, Mail: 7}, api.OK)
		wantSet(t, o, 3, 16, 0, box.Entry{UID: 3, Flags: 16, Mail: 103}, api.OK)
		wantSet(t, o, 2, 16, 0, box.Entry{}, api.ErrNone)
		wantRemove(t, o, 1, box.Entry{UID: 1, Flags: 1, Mail: 101}, api.OK)
		wantEntries(t, "Expunge", o.Expunge(), box.Entry{UID: 4, Flags: 8, Mail: 7})
		want(t, "Pack", o.Pack(), pack(9, 5, box.Entry{UID: 3, Flags: 16, Mail: 103}))
	}
	want(t, "Pack of the other", d.Pack(), packed)
}

// TestSeveral: they are read one after the other, and what is behind them is left.
func TestSeveral(t *testing.T) {
	one, two, three := of(t, 1, 2), box.New(most), of(t, make([]int, 256)...)
	in := wire.Of(one.Pack() + two.Pack() + three.Pack() + num(9))
	for _, b := range []*box.Box{one, two, three} {
		got, e := box.Read(in)
		if e != api.OK {
			t.Fatalf("error %d", e)
		}
		want(t, "Pack", got.Pack(), b.Pack())
	}
	want(t, "what is behind", in.Num(), 9)
	want(t, "End", in.End(), api.OK)
	b, e := box.Read(in)
	if b != nil || e != api.ErrEnd || in.Err() != api.ErrEnd {
		t.Errorf("nothing is left: got %v, error %d", b, e)
	}
}
