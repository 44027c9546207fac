package vault_test

import (
	"fmt"
	"maps"
	"math/rand"
	"slices"
	"testing"

	"sealwax/api"
	"sealwax/disk"
	"sealwax/suite"
	"sealwax/vault"
)

// wantAlike checks everything that a vault tells.
func (h *history) wantAlike(t *testing.T) {
	t.Helper()
	if h.v.Err() != h.broken() || h.v.Pages() != h.c.Pages || !slices.Equal(h.v.Dirty(), slices.Sorted(maps.Keys(h.written))) {
		t.Fatalf("got %d, %d, %v, want %d, %d, %v", h.v.Err(), h.v.Pages(), h.v.Dirty(), h.broken(), h.c.Pages, h.written)
	}
	for p := -1; p <= h.c.Pages; p++ {
		got, e := h.v.Read(p)
		wanted, f := h.now.with(h.written).of(p), h.broken()
		if f == api.OK && (p < 0 || p == h.c.Pages) {
			f = api.ErrArg
		}
		if f != api.OK {
			wanted = ""
		}
		if got != wanted || e != f {
			t.Fatalf("page %d: got %.12q, error %d, want %.12q, error %d", p, got, e, wanted, f)
		}
	}
}

// honest performs any call, wrong ones among them.
func (h *history) honest(t *testing.T) {
	t.Helper()
	switch h.random.Intn(10) {
	case 0, 1, 2, 3, 4:
		p, data := h.random.Intn(h.c.Pages+4)-2, numbered(h.random.Intn(10000))
		if h.random.Intn(9) == 0 {
			data = data[1:]
		}
		wanted := h.broken()
		if wanted == api.OK && (p < 0 || p >= h.c.Pages || len(data) != 240) {
			wanted = api.ErrArg
		}
		want(t, "Write", h.v.Write(p, data), wanted)
		if wanted == api.OK {
			h.written[p] = data
		}
	case 5, 6:
		if h.broken() == api.OK && len(h.written) > h.v.Room() {
			want(t, "Commit", h.v.Commit(), api.ErrFull)
			h.seen[api.ErrFull]++
			return
		}
		h.commits(t)
	case 7:
		h.v.Drop()
		h.written = pages{}
	case 8:
		if h.random.Intn(4) == 0 {
			h.d.Arm(h.random.Intn(40), h.random.Uint64())
		}
	case 9:
		h.opens(t)
	}
}

// TestAny: P13.1 to P13.3, any calls on any vault without an attacker: each result is known beforehand, and the disk is never taken for a modified one.
func TestAny(t *testing.T) {
	random := rand.New(rand.NewSource(131))
	seen := map[api.Errno]int{}
	for round := range 300 {
		s := suite.Ideal(tape(997))
		if round%4 == 0 {
			s = suite.Real(fmt.Sprint(round))
		}
		h := &history{rig: newRig(t, s, 1+random.Intn(40), 5+random.Intn(20), 1+random.Intn(12)), random: random, now: pages{}, written: pages{}, seen: seen}
		for range 80 {
			h.honest(t)
			if h.d.Crashed() && !h.crashed { // in a Commit, which noticed it
				t.Fatal("a crash was not noticed")
			}
			h.wantAlike(t)
			if t.Failed() {
				t.Fatalf("round %d", round)
			}
		}
	}
	want(t, "ErrTampered", seen[api.ErrTampered], 0)
	for _, e := range []api.Errno{api.OK, api.ErrFull, api.ErrCrash} {
		if seen[e] < 200 {
			t.Errorf("error %d: %d times only", e, seen[e])
		}
	}
}

// seals is all that was ever sealed with a suite, and where.
type seals struct {
	l    []sealed
	boot int
	seq  int
	macs int
}

type sealed struct {
	at          suite.At
	p           int
	plain, body string // body is empty if a crash kept it from the disk
}

// commit notes what a commit that has begun sealed: the steps of the disk show it after the page of numbers.
func (x *seals) commit(r *rig, plains pages, steps []disk.Op) {
	for i, p := range slices.Sorted(maps.Keys(plains)) {
		y := sealed{at: suite.At{Boot: x.boot, Seq: x.seq}, p: p, plain: plains[p]}
		if len(steps) > 1+i && steps[1+i].Kind == disk.Write {
			y.body = steps[1+i].Data
		}
		x.l = append(x.l, y)
		x.seq++
	}
	x.macs++
}

// wantOnce checks that each place has what was sealed there first: an ideal suite would have forgotten it otherwise.
func (x *seals) wantOnce(t *testing.T, s *suite.Suite) {
	t.Helper()
	for _, y := range x.l {
		if y.body == "" {
			continue
		}
		if plain, ok := s.Open(y.at, number(y.p), y.body); !ok || plain != y.plain {
			t.Fatalf("%v, page %d: got %.12q, %v, want %.12q", y.at, y.p, plain, ok, y.plain)
		}
	}
	want(t, "Drawn", s.Drawn(), len(x.l)*256+x.macs*24)
}

// TestOnce: P13.5, across formats and opens, commits that crash or have no room, and opens that fail.
func TestOnce(t *testing.T) {
	random := rand.New(rand.NewSource(135))
	for round := range 20 {
		r := newRig(t, suite.Ideal(tape(99991)), 20, 12, 1+random.Intn(12))
		x := &seals{boot: 1, macs: 1}
		for range 120 {
			onceStep(t, r, x, random)
			if t.Failed() {
				t.Fatalf("round %d", round)
			}
		}
		x.wantOnce(t, r.s)
		if len(x.l) < 50 {
			t.Errorf("round %d: %d were sealed", round, len(x.l))
		}
	}
}

func onceStep(t *testing.T, r *rig, x *seals, random *rand.Rand) {
	t.Helper()
	switch random.Intn(12) {
	case 0:
		r.format(t)
		x.boot, x.seq, x.macs = x.boot+1, 0, x.macs+1
	case 1:
		r.open(t)
		x.boot, x.seq = x.boot+1, 0
	case 2: // an attacker, for a while
		old := r.d.Stable()[0]
		r.d.Over(0, zeros(256))
		wantNoOpen(t, "no header", r, api.ErrTampered)
		r.d.Over(0, old)
		r.open(t)
		x.boot, x.seq = x.boot+2, 0
	case 3: // no room
		for p := range 9 {
			r.write(t, p, page('f'))
		}
		want(t, "Commit", r.v.Commit(), api.ErrFull)
		r.v.Drop()
	case 4: // what is dropped is not sealed
		r.write(t, random.Intn(20), page('d'))
		r.v.Drop()
		r.commit(t)
	default:
		onceCommit(t, r, x, random)
	}
}

// onceCommit commits some pages, which may crash.
func onceCommit(t *testing.T, r *rig, x *seals, random *rand.Rand) {
	t.Helper()
	plains := pages{}
	for range 1 + random.Intn(6) {
		plains[random.Intn(20)] = numbered(random.Intn(10000))
	}
	r.writeAll(t, plains)
	crashes := random.Intn(3) == 0
	if crashes {
		r.d.Arm(random.Intn(12), random.Uint64())
	}
	first := r.d.Steps()
	e := r.v.Commit()
	view := r.d.View()
	x.commit(r, plains, view[len(view)-(r.d.Steps()-first):])
	if e == api.ErrCrash && crashes {
		want(t, "Commit again", r.v.Commit(), api.ErrCrash)
		r.d.Start()
		r.open(t)
		x.boot, x.seq = x.boot+1, 0
		return
	}
	want(t, "Commit", e, api.OK)
	r.d.Arm(-1, 0)
}

// TestBootOfFailedOpen: a vault that goes on after an Open that failed seals at the Boot that there is then.
func TestBootOfFailedOpen(t *testing.T) {
	r := newRig(t, suite.Ideal(tape(99991)), 20, 12, 8)
	r.write(t, 3, page('a'))
	r.commit(t)
	old := r.d.Stable()[0]
	r.d.Over(0, zeros(256))
	wantNoOpen(t, "no header", r, api.ErrTampered)
	r.d.Over(0, old)
	r.write(t, 4, page('b'))
	r.commit(t)
	want(t, "Trusted", *r.tr, vault.Trusted{Boot: 2, Commit: 2<<20 + 2})
	r.open(t)
	pages{3: page('a'), 4: page('b')}.wantIn(t, "after it", r.v)
}
