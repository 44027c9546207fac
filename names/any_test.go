package names_test

import (
	"math/rand"
	"testing"

	"sealwax/api"
	"sealwax/names"
)

// anyName returns one of some names, so that they meet, or what is not one.
func anyName(r *rand.Rand) string {
	if r.Intn(12) == 0 {
		return []string{"", "a//b", "/", "a b", "abcdefghijklmnopqrstuvwxyz0123456", "a\x00", "\xff"}[r.Intn(7)]
	}
	l := letters(24)
	l[0], l[1], l[2] = "INBOX", "a/b/c", "abcdefghijklmnopqrstuvwxyz012345"
	return l[r.Intn(len(l))]
}

// assigned remembers each number that was assigned, so that P17.2 is checked by itself.
type assigned map[int]bool

func (a assigned) add(t *testing.T, id int) {
	t.Helper()
	if a[id] {
		t.Fatalf("number %d was assigned twice", id)
	}
	a[id] = true
}

// anyStep does one call to names and plain ones, and returns those to go on with.
func anyStep(t *testing.T, r *rand.Rand, n *names.Names, p *plain, a assigned) (*names.Names, api.Errno) {
	t.Helper()
	name, to := anyName(r), anyName(r)
	switch r.Intn(12) {
	case 0, 1, 2, 3, 4, 5, 6:
		id, e := n.Create(name)
		wanted, we := p.create(name)
		wantID(t, "Create "+name, id, e, wanted, we)
		if e == api.OK {
			a.add(t, id)
		}
		return n, e
	case 7:
		id, e := n.Delete(name)
		wanted, we := p.change(name, "")
		wantID(t, "Delete "+name, id, e, wanted, we)
		return n, e
	case 8, 9:
		id, e := n.Rename(name, to)
		wanted, we := p.rename(name, to)
		wantID(t, "Rename "+name+" "+to, id, e, wanted, we)
		return n, e
	case 10:
		old := n
		n = n.Clone()
		if r.Intn(2) == 0 {
			n, old = old, n
		}
		q := p.clone()
		old.Create(name)
		q.create(name)
		old.Rename(to, name)
		q.rename(to, name)
		old.Delete(to)
		q.change(to, "")
		wantAlike(t, old, q)
	case 11:
		n = wantRead(t, n.Pack())
	}
	return n, api.OK
}

// TestAny: P17.1 and P17.2, any calls in any order, also from a greater next number on.
func TestAny(t *testing.T) {
	r := rand.New(rand.NewSource(17))
	counts := map[api.Errno]int{}
	for round := range 150 {
		n, p, a := names.New(), newPlain(), assigned{}
		if round%3 == 0 {
			p.first = 1 + r.Intn(most-1000)
			n = wantRead(t, p.pack())
		}
		for range 80 {
			var e api.Errno
			n, e = anyStep(t, r, n, p, a)
			counts[e]++
			wantAlike(t, n, p)
			if t.Failed() {
				t.Fatalf("round %d", round)
			}
		}
	}
	for _, e := range []api.Errno{api.OK, api.ErrArg, api.ErrName, api.ErrThere, api.ErrFull} {
		if counts[e] < 50 {
			t.Errorf("error %d only %d times: the test asks too little", e, counts[e])
		}
	}
}

// changed returns bytes that differ in some way that may be seen as late as possible.
func changed(r *rand.Rand, packed string) string {
	i := r.Intn(len(packed) + 1)
	j := i + r.Intn(len(packed)+1-i)
	switch r.Intn(9) {
	case 0:
		return packed[:i]
	case 1:
		return packed[:i] + packed[j:]
	case 2:
		return packed[:i] + packed[i:j] + packed[i:j] + packed[j:]
	case 3:
		return packed[:i] + zeros(r.Intn(20)) + packed[i:]
	}
	out := []byte(packed)
	for range 1 + r.Intn(2) {
		k := r.Intn(len(out))
		switch r.Intn(4) {
		case 0:
			out[k] ^= 1 << r.Intn(8)
		case 1:
			out[k] = "aZ0/.-_\x00 \xff"[r.Intn(10)]
		case 2:
			out[k] += byte(r.Intn(3)) - 1
		case 3: // the lowest byte of one of the numbers
			out[k/8*8+7] += byte(r.Intn(5)) - 2
		}
	}
	return string(out)
}

// TestReadAny: P17.1, bytes that were changed, against a reader that is written apart.
func TestReadAny(t *testing.T) {
	r := rand.New(rand.NewSource(171))
	counts := map[api.Errno]int{}
	for range 500 {
		n, p, a := names.New(), newPlain(), assigned{}
		for range r.Intn(30) {
			n, _ = anyStep(t, r, n, p, a)
		}
		packed := n.Pack()
		for range 40 {
			other := changed(r, packed)
			size, e := plainRead(other)
			counts[e]++
			if e == api.OK {
				wantRead(t, other[:size])
			} else {
				wantNoRead(t, other, e)
			}
		}
	}
	if len(counts) != 3 || counts[api.OK] < 500 || counts[api.ErrForm] < 500 || counts[api.ErrEnd] < 500 {
		t.Errorf("%v: the test asks for one kind only", counts)
	}
}
