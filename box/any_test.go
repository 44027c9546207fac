package box_test

import (
	"math/rand"
	"testing"

	"sealwax/api"
	"sealwax/box"
)

// anyNumber returns one of 1 to n, or sometimes any number.
func anyNumber(r *rand.Rand, n int) int {
	switch r.Intn(20) {
	case 0:
		return r.Int() >> r.Intn(63)
	case 1:
		return -r.Int() >> r.Intn(63)
	}
	return 1 + r.Intn(n)
}

// assigned remembers each UID that was assigned, so that P18.2 is checked by itself.
type assigned map[int]bool

func (a assigned) add(t *testing.T, uid int) {
	t.Helper()
	if a[uid] {
		t.Fatalf("UID %d was assigned twice", uid)
	}
	a[uid] = true
}

// anyStep does one call to a mailbox and a plain one, and returns that to go on with.
func anyStep(t *testing.T, r *rand.Rand, b *box.Box, p *plain, a assigned) (*box.Box, api.Errno) {
	t.Helper()
	uid := p.next - anyNumber(r, 20)
	if l := p.list(); len(l) > 0 && r.Intn(2) == 0 {
		uid = l[r.Intn(len(l))].UID
	}
	mail, on, off := anyNumber(r, 30), anyNumber(r, 32)-1, anyNumber(r, 32)-1
	switch r.Intn(14) {
	case 0, 1, 2, 3, 4, 5, 6:
		e, err := b.Add(mail, on)
		wanted, we := p.add(mail, on)
		wantEntry(t, "Add", e, err, wanted, we)
		if err == api.OK {
			a.add(t, e.UID)
		}
		return b, err
	case 7:
		e, err := b.Remove(uid)
		wanted, we := p.remove(uid)
		wantEntry(t, "Remove", e, err, wanted, we)
		return b, err
	case 8, 9, 10:
		if r.Intn(8) > 0 { // most entries remain at the next Expunge
			off |= box.Deleted
			on &^= box.Deleted
		}
		e, err := b.Set(uid, on, off)
		wanted, we := p.set(uid, on, off)
		wantEntry(t, "Set", e, err, wanted, we)
		return b, err
	case 11:
		if r.Intn(4) == 0 {
			wantEntries(t, "Expunge", b.Expunge(), p.expunge()...)
		}
	case 12:
		old := b
		b = b.Clone()
		if r.Intn(2) == 0 {
			b, old = old, b
		}
		q := p.clone()
		old.Add(mail, on)
		q.add(mail, on)
		old.Set(uid, on, off)
		q.set(uid, on, off)
		old.Remove(uid + 1)
		q.remove(uid + 1)
		wantEntries(t, "Expunge", old.Expunge(), q.expunge()...)
		wantAlike(t, old, q)
	case 13:
		b = wantRead(t, b.Pack())
	}
	return b, api.OK
}

// TestAny: P18.1 and P18.2, any calls in any order, also from a greater next UID on.
func TestAny(t *testing.T) {
	r := rand.New(rand.NewSource(18))
	counts := map[api.Errno]int{}
	for round := range 150 {
		validity := 1 + r.Intn(most)
		b, p, a := box.New(validity), newPlain(validity, 1), assigned{}
		if round%3 == 0 {
			p.next = 1 + r.Intn(most-1000)
			b = wantRead(t, p.pack())
		}
		if round%30 == 0 {
			for range 250 {
				b.Add(1, 0)
				p.add(1, 0)
			}
		}
		for range 80 {
			var e api.Errno
			b, e = anyStep(t, r, b, p, a)
			counts[e]++
			wantAlike(t, b, p)
			if t.Failed() {
				t.Fatalf("round %d", round)
			}
		}
	}
	if counts[api.OK] < 1000 || counts[api.ErrArg] < 500 || counts[api.ErrNone] < 500 || counts[api.ErrFull] < 20 {
		t.Errorf("%v: the test asks too little", counts)
	}
}

// changed returns bytes that differ in some way that may be seen as late as possible.
func changed(r *rand.Rand, packed string) string {
	i := r.Intn(len(packed) + 1)
	j := i + r.Intn(len(packed)+1-i)
	switch r.Intn(9) {
	case 0:
		return packed[:i]
	case 1:
		return packed[:i] + packed[j:]
	case 2:
		return packed[:i] + packed[i:j] + packed[i:j] + packed[j:]
	case 3:
		return packed[:i] + zeros(r.Intn(20)) + packed[i:]
	}
	out := []byte(packed)
	for range 1 + r.Intn(2) {
		k := r.Intn(len(out))
		switch r.Intn(4) {
		case 0:
			out[k] ^= 1 << r.Intn(8)
		case 1:
			out[k] = byte(r.Intn(256))
		default: // the lowest byte of one of the numbers
			out[k/8*8+7] += byte(r.Intn(5)) - 2
		}
	}
	return string(out)
}

// TestReadAny: P18.1, bytes that were changed, against a reader that is written apart.
func TestReadAny(t *testing.T) {
	r := rand.New(rand.NewSource(181))
	counts := map[api.Errno]int{}
	for range 500 {
		b, p, a := box.New(1+r.Intn(1000)), newPlain(1, 1), assigned{}
		p.validity = b.Validity()
		for range r.Intn(40) {
			b, _ = anyStep(t, r, b, p, a)
		}
		packed := b.Pack()
		for range 40 {
			other := changed(r, packed)
			size, e := plainRead(other)
			counts[e]++
			if e == api.OK {
				wantRead(t, other[:size])
			} else {
				wantNoRead(t, other, e)
			}
		}
	}
	if len(counts) != 3 || counts[api.OK] < 500 || counts[api.ErrForm] < 500 || counts[api.ErrEnd] < 500 {
		t.Errorf("%v: the test asks for one kind only", counts)
	}
}
