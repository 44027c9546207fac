package vault_test

import (
	"fmt"
	"math/rand"
	"testing"

	"sealwax/api"
	"sealwax/disk"
	"sealwax/journal"
	"sealwax/suite"
	"sealwax/vault"
)

// TestRollBack: P13.4, each older state of the disk, whole or but for some pages, is noticed.
func TestRollBack(t *testing.T) {
	for name, s := range suites() {
		t.Run(name, func(t *testing.T) {
			r := newRig(t, s, 20, 12, 8)
			var states [][]string
			for i := range 6 {
				states = append(states, r.d.Stable())
				r.write(t, 3, numbered(i))
				r.write(t, i, numbered(i+50))
				r.write(t, 19, numbered(i+100))
				r.commit(t)
				if i == 3 {
					r.open(t)
				}
			}
			now := r.d.Stable()
			put := func(from, to int, l []string) {
				for p := from; p < to; p++ {
					r.d.Over(p, l[p])
				}
			}
			for i, old := range states {
				put(0, 35, old)
				wantNoOpen(t, fmt.Sprint("all of state ", i), r, api.ErrTampered)
				put(0, 35, now)
				put(0, 1, old)
				wantNoOpen(t, fmt.Sprint("the header of state ", i), r, api.ErrTampered)
				put(0, 15, now)
				put(1, 35, old)
				wantNoOpen(t, fmt.Sprint("all but the header of state ", i), r, api.ErrTampered)
				put(1, 15, now)
				r.open(t)
				for _, p := range []int{3, 19} {
					wantNoPage(t, r.v, p, api.ErrTampered)
					r.open(t)
				}
				put(1, 35, now)
				put(1, 13, old) // the place of the journal alone
				r.open(t)
				wantPage(t, r.v, 3, numbered(5))
				wantPage(t, r.v, 19, numbered(105))
				put(1, 13, now)
			}
		})
	}
}

// TestOldJournals: P13.4, no journal of an older commit has an effect, whenever it is put there.
func TestOldJournals(t *testing.T) {
	for name, s := range suites() {
		t.Run(name, func(t *testing.T) {
			r := newRig(t, s, 20, 12, 8)
			var old [][]string
			wanted := pages{}
			for i := range 6 {
				change := pages{3: numbered(i), i: numbered(i + 50)}
				r.writeAll(t, change)
				r.d.Arm(8, 0) // as soon as its journal is complete
				want(t, "Commit", r.v.Commit(), api.ErrCrash)
				r.d.Start()
				old = append(old, r.d.Stable()[1:13])
				r.open(t)
				wanted = wanted.with(change)
				wanted.wantIn(t, "after its journal", r.v)
				r.write(t, 9, numbered(i+100))
				r.commit(t)
				wanted = wanted.with(pages{9: numbered(i + 100)})
				for _, l := range old {
					for p, data := range l {
						r.d.Over(1+p, data)
					}
					found, e := journal.Find(r.d, 1, 12)
					want(t, "a journal", len(found) > 0 && e == api.OK, true)
					r.open(t)
					wanted.wantIn(t, "after an old journal", r.v)
				}
			}
		})
	}
}

// history is a vault with an attacker, and what it must have.
type history struct {
	*rig
	random   *rand.Rand
	now      pages // what was committed last
	written  pages
	tampered bool // the permanent error is ErrTampered
	crashed  bool // it is ErrCrash
	old      [][]string
	seen     map[api.Errno]int
}

// attack changes the disk as an attacker may.
func (h *history) attack() {
	n := h.d.Pages()
	p, q := h.random.Intn(n), h.random.Intn(n)
	stable := h.d.Stable()
	if h.random.Intn(3) > 0 { // parts that are few, but matter most
		p = []int{0, 1, 13, 14, h.pageAt(3)}[h.random.Intn(5)]
	}
	switch h.random.Intn(7) {
	case 0:
		bytes := []byte(stable[p])
		bytes[h.random.Intn(256)] ^= 1 << h.random.Intn(8)
		h.d.Over(p, string(bytes))
	case 1:
		h.d.Swap(p, q)
	case 2:
		h.d.Over(p, stable[q])
	case 3:
		h.old = append(h.old, stable)
	case 4, 5:
		if len(h.old) > 0 {
			l := h.old[h.random.Intn(len(h.old))]
			from, to := 0, n
			if h.random.Intn(2) == 0 {
				from = h.random.Intn(n)
				to = from + h.random.Intn(n-from)
			}
			for i := from; i < to; i++ {
				h.d.Over(i, l[i])
			}
		}
	case 6:
		h.forge(stable)
	}
}

// forge puts a journal of the attacker's there.
func (h *history) forge(stable []string) {
	header := stable[0]
	if h.random.Intn(2) == 0 {
		header = "SWHD" + number(h.tr.Commit) + header[12:]
	}
	p := h.random.Intn(h.c.Pages)
	l := []journal.Page{{At: h.pageAt(p), Data: stable[h.pageAt(h.random.Intn(h.c.Pages))]}, {At: 13 + h.random.Intn(2), Data: stable[13]}, {At: 0, Data: header}}
	made := disk.New(h.d.Pages(), 9)
	journal.Prepare(made, 1, h.c.Journal, l[h.random.Intn(3):]...)
	for i, data := range made.Stable()[1:13] {
		h.d.Over(1+i, data)
	}
}

// broken returns the permanent error as it must be.
func (h *history) broken() api.Errno {
	switch {
	case h.tampered:
		return api.ErrTampered
	case h.crashed:
		return api.ErrCrash
	}
	return api.OK
}

// note remembers a permanent error.
func (h *history) note(e api.Errno) {
	h.seen[e]++
	h.tampered = h.tampered || e == api.ErrTampered
	h.crashed = h.crashed || e == api.ErrCrash
}

func (h *history) read(t *testing.T) {
	t.Helper()
	p := h.random.Intn(h.c.Pages)
	wanted := h.now.with(h.written).of(p)
	got, e := h.v.Read(p)
	switch broken := h.broken(); {
	case broken != api.OK:
		want(t, "Read", e, broken)
	case e == api.OK && got != wanted:
		t.Fatalf("page %d is read as %.12q, want %.12q", p, got, wanted)
	case e == api.ErrCrash:
		want(t, "Read: crashed", h.d.Crashed(), true)
	case e != api.OK:
		want(t, "Read", e, api.ErrTampered)
	}
	if e != api.OK {
		want(t, "Read", got, "")
	}
	h.note(e)
}

func (h *history) commits(t *testing.T) {
	t.Helper()
	before := h.tr.Commit
	e := h.v.Commit()
	switch broken := h.broken(); {
	case broken != api.OK:
		want(t, "Commit", e, broken)
	case e == api.OK || e == api.ErrCrash && h.tr.Commit != before:
		h.now = h.now.with(h.written)
		if e == api.OK {
			h.written = pages{}
		}
	default:
		want(t, "Commit", e, api.ErrCrash)
		want(t, "Commit: crashed", h.d.Crashed(), true)
	}
	h.note(e)
}

// opens opens the vault anew; if that shows that the disk was changed, it may be formatted.
func (h *history) opens(t *testing.T) {
	t.Helper()
	h.d.Start()
	v, e := vault.Open(h.d, h.s, h.tr, h.c)
	h.seen[e]++
	if e != api.OK {
		want(t, "Open", e, api.ErrTampered)
		want(t, "Open", v == nil, true)
		if v, e = vault.Format(h.d, h.s, h.tr, h.c); e != api.OK {
			t.Fatalf("Format: error %d", e)
		}
		h.now = pages{}
	}
	h.v, h.written, h.tampered, h.crashed = v, pages{}, false, false
}

func (h *history) step(t *testing.T) {
	t.Helper()
	switch h.random.Intn(14) {
	case 0, 1, 2, 3:
		p, data := h.random.Intn(h.c.Pages), numbered(h.random.Intn(10000))
		if h.random.Intn(2) == 0 {
			p = 3 // often the same
		}
		if len(h.written) == h.v.Room() {
			return
		}
		e := h.v.Write(p, data)
		want(t, "Write", e, h.broken())
		if e == api.OK {
			h.written[p] = data
		}
	case 4, 5, 6:
		h.read(t)
	case 7, 8:
		h.commits(t)
	case 9:
		h.d.Arm(h.random.Intn(40)-5, h.random.Uint64())
	case 10, 11:
		for range 1 + h.random.Intn(2) {
			h.attack()
		}
	case 12:
		if h.random.Intn(3) == 0 {
			h.v.Drop()
			h.written = pages{}
		}
	case 13:
		h.opens(t)
	}
}

// TestAttacker: P13.4 with P13.3, any calls, with any crashes and an attacker who does anything in between: each page is read as it was committed last, or the result is ErrTampered.
func TestAttacker(t *testing.T) {
	random := rand.New(rand.NewSource(134))
	seen := map[api.Errno]int{}
	for round := range 400 {
		s := suite.Ideal(tape(9973))
		if round%8 == 0 {
			s = suite.Real("key")
		}
		h := &history{rig: newRig(t, s, 20, 12, 1+random.Intn(12)), random: random, now: pages{}, written: pages{}, seen: seen}
		for range 150 {
			h.step(t)
			want(t, "Err", h.v.Err(), h.broken())
			if t.Failed() {
				t.Fatalf("round %d", round)
			}
		}
	}
	for _, e := range []api.Errno{api.OK, api.ErrTampered, api.ErrCrash} {
		if seen[e] < 1000 {
			t.Errorf("error %d: %d times only", e, seen[e])
		}
	}
}

// TestHidden: no page of the disk shows what was written, also not whether two pages are equal.
func TestHidden(t *testing.T) {
	for name, s := range suites() {
		t.Run(name, func(t *testing.T) {
			r := newRig(t, s, 20, 12, 8)
			seen := map[string]bool{}
			for range 3 {
				for p := range 4 {
					r.write(t, p, page('a'))
				}
				r.commit(t)
				for p := range 4 {
					data := r.d.Stable()[r.pageAt(p)]
					if seen[data] || data[:240] == page('a') {
						t.Errorf("page %d: %.12q", p, data)
					}
					seen[data] = true
				}
			}
		})
	}
}
