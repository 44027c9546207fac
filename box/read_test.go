package box_test

import (
	"math"
	"strings"
	"testing"

	"sealwax/api"
	"sealwax/box"
	"sealwax/wire"
)

// TestReadParts: every part of an encoding ends too early.
func TestReadParts(t *testing.T) {
	for _, k := range []int{0, 1, 3, 30} {
		packed := of(t, make([]int, k)...).Pack()
		for n := range packed {
			wantNoRead(t, packed[:n], api.ErrEnd)
		}
		wantRead(t, packed)
	}
}

// TestReadEveryBit: each one changed, against a reader that is written apart.
func TestReadEveryBit(t *testing.T) {
	b := of(t, 1, 8, 0, 31, 7, 16)
	b.Remove(3)
	packed := b.Pack()
	fine := 0
	for bit := range 8 * len(packed) {
		changed := []byte(packed)
		changed[bit/8] ^= 0x80 >> (bit % 8)
		if size, e := plainRead(string(changed)); e != api.OK {
			wantNoRead(t, string(changed), e)
		} else {
			wantRead(t, string(changed[:size]))
			fine++
		}
	}
	if fine < 200 {
		t.Errorf("only %d are read: the test asks too little", fine)
	}
}

// TestReadHead: the validity and the next UID are 1 to 2^40, the number of entries at most 256. That is checked as soon as all three were read.
func TestReadHead(t *testing.T) {
	fine := []int{1, 2, 255, 1 << 32, most - 1, most}
	wrong := []int{0, most + 1, most + 2, 2 * most, math.MaxInt}
	for _, validity := range fine {
		for _, next := range fine {
			b := wantRead(t, head(validity, next, 0))
			want(t, "Validity", b.Validity(), validity)
			want(t, "Next", b.Next(), next)
			wantEntries(t, "List", b.List())
			wantAdd(t, b, 5, 1, box.Entry{UID: next, Flags: 1, Mail: 5}, api.OK)
			wantAdd(t, b, 6, 2, box.Entry{UID: next + 1, Flags: 2, Mail: 6}, api.OK)
			want(t, "Next", b.Next(), next+2)
		}
		for _, next := range wrong {
			for _, packed := range []string{head(validity, next, 0), head(next, validity, 0), head(next, next, 0)} {
				wantNoRead(t, packed, api.ErrForm)
				wantNoRead(t, packed+entry(1, 0, 1), api.ErrForm)
				for n := range packed {
					wantNoRead(t, packed[:n], api.ErrEnd)
				}
			}
		}
	}
}

// TestReadCount: there are at most 256 entries, and as many as it says.
func TestReadCount(t *testing.T) {
	all := ""
	for i := range 260 {
		all += entry(i+1, i%32, i+1)
	}
	for _, k := range []int{0, 1, 2, 17, 254, 255, 256} {
		b := wantRead(t, head(9, 300, k)+all[:24*k])
		want(t, "entries", len(b.List()), k)
		e, err := b.Add(1, 0)
		if k < 256 {
			wantEntry(t, "Add", e, err, box.Entry{UID: 300, Mail: 1}, api.OK)
		} else {
			wantEntry(t, "Add", e, err, box.Entry{}, api.ErrFull)
		}
		if k > 0 {
			wantNoRead(t, head(9, 300, k)+all[:24*k-1], api.ErrEnd)
			wantNoRead(t, head(9, 300, k), api.ErrEnd)
		}
	}
	for _, count := range []int{257, 258, 1 << 16, 1 << 32, most, math.MaxInt - 1, math.MaxInt} {
		wantNoRead(t, head(9, 300, count), api.ErrForm)
		wantNoRead(t, head(9, 300, count)+all, api.ErrForm)
	}
}

// TestReadUIDs: they ascend, from 1 on, and are less than the next one (P18.2).
func TestReadUIDs(t *testing.T) {
	for i := range 5 * 5 * 5 {
		a, b, c := i/25, i/5%5, i%5
		packed := head(9, 4, 3) + entry(a, 1, 5) + entry(b, 2, 5) + entry(c, 3, 6)
		if a == 1 && b == 2 && c == 3 {
			wantEntries(t, "List", wantRead(t, packed).List(), box.Entry{UID: 1, Flags: 1, Mail: 5}, box.Entry{UID: 2, Flags: 2, Mail: 5}, box.Entry{UID: 3, Flags: 3, Mail: 6})
		} else {
			wantNoRead(t, packed, api.ErrForm)
		}
		if packed = strings.Replace(packed, num(4), num(5), 1); 0 < a && a < b && b < c {
			wantEntries(t, "List", wantRead(t, packed).List(), box.Entry{UID: a, Flags: 1, Mail: 5}, box.Entry{UID: b, Flags: 2, Mail: 5}, box.Entry{UID: c, Flags: 3, Mail: 6})
		} else {
			wantNoRead(t, packed, api.ErrForm)
		}
	}
	for _, next := range []int{1, 2, 3, 300, most} {
		for _, uid := range []int{0, 1, 2, next - 1, next, next + 1, most - 1, most, most + 1, math.MaxInt} {
			packed := head(9, next, 1) + entry(uid, 0, 1)
			if uid >= 1 && uid < next {
				wantEntries(t, "List", wantRead(t, packed).List(), box.Entry{UID: uid, Mail: 1})
			} else {
				wantNoRead(t, packed, api.ErrForm)
			}
		}
	}
}

func TestReadFlags(t *testing.T) {
	for flags := range 32 {
		wantEntries(t, "List", wantRead(t, head(9, 4, 1)+entry(3, flags, 7)).List(), box.Entry{UID: 3, Flags: flags, Mail: 7})
	}
	for _, flags := range []int{32, 33, 63, 64, 256, 1 << 32, most, math.MaxInt} {
		wantNoRead(t, head(9, 4, 1)+entry(3, flags, 7), api.ErrForm)
		wantNoRead(t, head(9, 4, 2)+entry(2, 0, 7)+entry(3, flags, 7), api.ErrForm)
	}
}

func TestReadMails(t *testing.T) {
	for _, mail := range []int{1, 2, 4, 1 << 32, most - 1, most} {
		wantEntries(t, "List", wantRead(t, head(9, 4, 2)+entry(2, 0, mail)+entry(3, 0, mail)).List(), box.Entry{UID: 2, Mail: mail}, box.Entry{UID: 3, Mail: mail})
	}
	for _, mail := range []int{0, most + 1, most + 2, math.MaxInt} {
		wantNoRead(t, head(9, 4, 1)+entry(3, 0, mail), api.ErrForm)
		wantNoRead(t, head(9, 4, 2)+entry(2, 0, 1)+entry(3, 0, mail), api.ErrForm)
	}
}

// TestReadEntryWhole: an entry is checked as soon as all of it was read, not before, and before what follows it is read.
func TestReadEntryWhole(t *testing.T) {
	begin := head(9, 5, 3) + entry(2, 0, 1)
	for _, wrong := range []string{entry(2, 0, 1), entry(1, 0, 1), entry(0, 0, 1), entry(5, 0, 1), entry(3, 32, 1), entry(3, 0, 0), entry(3, 0, most+1), entry(9, 99, 0)} {
		wantNoRead(t, begin+wrong, api.ErrForm)
		wantNoRead(t, begin+wrong+"x", api.ErrForm)
		wantNoRead(t, begin+wrong+entry(4, 0, 1), api.ErrForm)
		for n := range wrong {
			wantNoRead(t, begin+wrong[:n], api.ErrEnd)
		}
	}
	wantNoRead(t, begin+entry(3, 0, 1), api.ErrEnd)
	wantNoRead(t, begin+entry(3, 0, 1)+"x", api.ErrEnd)
}

// TestReadNumbers: those of 2^63 and more are none.
func TestReadNumbers(t *testing.T) {
	for _, begin := range []string{"", num(9), num(9) + num(5), num(0) + num(0), head(9, 5, 1), head(9, 5, 1) + num(1), head(9, 5, 1) + num(1) + num(0), head(9, 5, 1) + num(5) + num(32), head(9, 5, 2) + entry(1, 0, 1)} {
		for _, great := range []string{"\x80" + zeros(7), strings.Repeat("\xff", 8), "\x80" + zeros(6) + "\x01"} {
			wantNoRead(t, begin+great, api.ErrForm)
			wantNoRead(t, begin+great+zeros(100), api.ErrForm)
			wantNoRead(t, begin+great[:7], api.ErrEnd)
		}
	}
}

// TestReadFirstError: the first one from the left, whatever follows it.
func TestReadFirstError(t *testing.T) {
	wantNoRead(t, "", api.ErrEnd)
	wantNoRead(t, "short", api.ErrEnd)
	wantNoRead(t, strings.Repeat("\xff", 7), api.ErrEnd)
	wantNoRead(t, strings.Repeat("\xff", 100), api.ErrForm)
	wantNoRead(t, zeros(23), api.ErrEnd)
	wantNoRead(t, zeros(24), api.ErrForm)
	wantNoRead(t, head(9, 0, math.MaxInt)[:23], api.ErrEnd)
}

// TestReadFailed: a reader that has failed already gives its own error.
func TestReadFailed(t *testing.T) {
	for _, wanted := range []api.Errno{api.ErrForm, api.ErrEnd, api.ErrArg, api.ErrCrash, -1, 99} {
		in := wire.Of(head(1, 1, 0))
		in.Fail(wanted)
		b, e := box.Read(in)
		if b != nil || e != wanted || in.Err() != wanted {
			t.Errorf("got %v, error %d, want error %d", b, e, wanted)
		}
	}
	b, e := box.Read(new(wire.In))
	if b != nil || e != api.ErrEnd {
		t.Errorf("a zero reader: got %v, error %d", b, e)
	}
}
