package vault_test

import (
	"fmt"
	"maps"
	"math"
	"slices"
	"testing"

	"sealwax/api"
	"sealwax/suite"
	"sealwax/vault"
)

// masks returns all masks for that many writes, or some if they are many.
func masks(n int) []uint64 {
	var out []uint64
	if n <= 3 {
		for m := range uint64(1) << n {
			out = append(out, m)
		}
		return out
	}
	out = []uint64{0, math.MaxUint64, 0xaaaaaaaaaaaaaaaa, 0x5555555555555555}
	for bit := range n {
		out = append(out, 1<<bit, ^uint64(1<<bit))
	}
	return out
}

// pages is what a vault has: a page that is not mentioned has zero bytes.
type pages map[int]string

func (l pages) with(more pages) pages {
	out := maps.Clone(l)
	maps.Copy(out, more)
	return out
}

func (l pages) of(p int) string {
	if s, ok := l[p]; ok {
		return s
	}
	return page(0)
}

func (l pages) wantIn(t *testing.T, what string, v *vault.Vault) {
	t.Helper()
	for p := range v.Pages() {
		if got, e := v.Read(p); got != l.of(p) || e != api.OK {
			t.Fatalf("%s: page %d: got %.12q, error %d, want %.12q", what, p, got, e, l.of(p))
		}
	}
}

func (r *rig) writeAll(t *testing.T, l pages) {
	t.Helper()
	for p, data := range l {
		r.write(t, p, data)
	}
}

// cases are what is committed, and over what.
func cases() []struct{ before, change pages } {
	return []struct{ before, change pages }{
		{pages{}, pages{0: numbered(1)}},
		{pages{3: page('a'), 4: page('b')}, pages{4: page('c'), 17: page('d')}},
		{pages{1: page('a'), 2: page('b'), 18: page('c')}, pages{0: page('d'), 1: page(0), 2: page('e'), 15: page('f'), 16: page('g')}},
	}
}

// prepared returns a rig with what was before a commit.
func prepared(t *testing.T, s *suite.Suite, cache int, before pages) *rig {
	t.Helper()
	r := newRig(t, s, 19, 14, cache)
	r.writeAll(t, before)
	r.commit(t)
	r.open(t)
	return r
}

// stepsOf returns how many steps a call performs.
func stepsOf(r *rig, call func()) int {
	n := r.d.Steps()
	call()
	return r.d.Steps() - n
}

// TestCrashOfCommit: P13.3, every step of a commit, with many masks.
func TestCrashOfCommit(t *testing.T) {
	for name, s := range suites() {
		for i, x := range cases() {
			for _, cache := range []int{1, 3, 40} {
				whole := prepared(t, s.Clone(), cache, x.before)
				whole.writeAll(t, x.change)
				total := stepsOf(whole, func() { whole.commit(t) })
				for step := range total + 1 {
					for _, mask := range masks(min(cache, len(x.change)+3)) {
						what := fmt.Sprintf("%s, case %d, cache %d, step %d, mask %b", name, i, cache, step, mask)
						crashCommit(t, what, prepared(t, s.Clone(), cache, x.before), x.before, x.change, step, mask, step == total)
					}
				}
			}
		}
	}
}

func crashCommit(t *testing.T, what string, r *rig, before, change pages, step int, mask uint64, whole bool) {
	t.Helper()
	r.writeAll(t, change)
	commit := r.tr.Commit
	dirty := r.v.Dirty()
	r.d.Arm(step, mask)
	e := r.v.Commit()
	want(t, what, e, map[bool]api.Errno{true: api.OK, false: api.ErrCrash}[whole])
	// the steps of Prepare are its page of numbers, its pages, a Flush, its header and a Flush
	l := len(change) + 1
	for i := range 2 {
		if slices.ContainsFunc(dirty, func(p int) bool { return p/16 == i }) {
			l++
		}
	}
	done := step >= l+4
	want(t, what+": number", r.tr.Commit, map[bool]int{true: r.tr.Boot<<20 + 1, false: commit}[done])
	if !whole {
		want(t, what+": Err", r.v.Err(), api.ErrCrash)
		want(t, what+": Dirty", slices.Equal(r.v.Dirty(), dirty), true)
		wantNoPage(t, r.v, 0, api.ErrCrash)
	}
	r.d.Start()
	wanted := before
	if done {
		wanted = before.with(change)
	}
	r.open(t)
	wanted.wantIn(t, what, r.v)
	r.write(t, 5, page('n'))
	r.commit(t)
	r.open(t)
	wanted.with(pages{5: page('n')}).wantIn(t, what+", and the next", r.v)
}

// TestCrashOfOpen: P13.3, every step of an Open that finishes or erases what a crash left, again and again.
func TestCrashOfOpen(t *testing.T) {
	for name, s := range suites() {
		for i, x := range cases() {
			for _, cache := range []int{1, 3, 40} {
				for crash := range 14 {
					r := prepared(t, s.Clone(), cache, x.before)
					r.writeAll(t, x.change)
					commit := r.tr.Commit
					r.d.Arm(crash, 1) // the header of the journal is there, if it alone waits
					r.v.Commit()
					wanted := x.before
					if r.tr.Commit != commit {
						wanted = x.before.with(x.change)
					}
					r.d.Start()
					crashOpens(t, fmt.Sprintf("%s, case %d, cache %d, crash %d", name, i, cache, crash), r, wanted)
				}
			}
		}
	}
}

func crashOpens(t *testing.T, what string, r *rig, wanted pages) {
	t.Helper()
	whole := r.clone()
	total := stepsOf(whole, func() { whole.open(t) })
	wanted.wantIn(t, what, whole.v)
	for step := range total {
		for _, mask := range masks(min(4, total)) {
			x := r.clone()
			for again := range 3 {
				x.d.Arm(max(0, step-again), mask)
				if v, e := vault.Open(x.d, x.s, x.tr, x.c); v == nil {
					want(t, what, e, api.ErrCrash)
				} else {
					want(t, what, e, api.OK)
				}
				x.d.Start()
			}
			x.open(t)
			wanted.wantIn(t, what, x.v)
		}
	}
}

// TestCrashOfFormat: P13.3, after every step of Format, what was there before is there completely, or nothing can be opened; at the end all pages have zero bytes.
func TestCrashOfFormat(t *testing.T) {
	for name, s := range suites() {
		for i, x := range cases() {
			for _, cache := range []int{1, 3, 40} {
				for step := range 6 {
					for _, mask := range masks(min(cache, 4)) {
						what := fmt.Sprintf("%s, case %d, cache %d, step %d, mask %b", name, i, cache, step, mask)
						r := prepared(t, s.Clone(), cache, x.before)
						commit := r.tr.Commit
						r.d.Arm(step, mask)
						v, e := vault.Format(r.d, r.s, r.tr, r.c)
						want(t, what, e, map[bool]api.Errno{true: api.OK, false: api.ErrCrash}[step == 5])
						want(t, what, v != nil, step == 5)
						want(t, what, r.tr.Commit, map[bool]int{true: r.tr.Boot << 20, false: commit}[step == 5])
						r.d.Start()
						v, e = vault.Open(r.d, r.s, r.tr, r.c)
						switch {
						case step == 5:
							want(t, what, e, api.OK)
							pages{}.wantIn(t, what, v)
						case e == api.OK:
							x.before.wantIn(t, what, v)
						default:
							want(t, what, e, api.ErrTampered)
						}
						r.format(t)
						pages{}.wantIn(t, what, r.v)
					}
				}
			}
		}
	}
}

// TestCrashBetween: a crash that the vault does not notice changes nothing, since it leaves nothing in the cache.
func TestCrashBetween(t *testing.T) {
	r := prepared(t, suite.Real("key"), 40, pages{3: page('a')})
	r.write(t, 3, page('b'))
	r.commit(t)
	want(t, "Cached", r.d.Cached(), 0)
	r.d.Arm(0, 0)
	r.d.Flush()
	r.d.Start()
	wantPage(t, r.v, 3, page('b'))
	r.write(t, 4, page('c'))
	r.commit(t)
	r.open(t)
	want(t, "Cached", r.d.Cached(), 0)
	pages{3: page('b'), 4: page('c')}.wantIn(t, "in the end", r.v)
}
