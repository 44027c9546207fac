package journal_test

import (
	"math"
	"slices"
	"testing"

	"sealwax/api"
	"sealwax/disk"
	"sealwax/journal"
)

// filledDisk returns a disk whose pages outside of the place are all different.
func filledDisk(t *testing.T, pages, cache, at, size int) *disk.Disk {
	t.Helper()
	d := disk.New(pages, cache)
	for p := range pages {
		if p < at || p >= at+size {
			d.Over(p, numbered(5000+p))
		}
	}
	return d
}

// outside returns the pages that a journal may change.
func outside(d *disk.Disk, at, size int) []string {
	return slices.Delete(d.Stable(), at, at+size)
}

// replayed returns what is outside after all writes.
func replayed(d *disk.Disk, at, size int, l []journal.Page) []string {
	out := d.Stable()
	for _, x := range l {
		out[x.At] = x.Data
	}
	return slices.Delete(out, at, at+size)
}

// TestCrashedDisk: its error is returned, with nothing else, but only for a place that exists.
func TestCrashedDisk(t *testing.T) {
	l := writes(2, 9, 2, 5)
	d := disk.New(9, 2)
	want(t, "Prepare", journal.Prepare(d, 2, 5, l...), api.OK)
	d.Arm(0, 0)
	d.Flush()
	want(t, "Prepare", journal.Prepare(d, 2, 5, l...), api.ErrCrash)
	want(t, "Prepare of more", journal.Prepare(d, 2, 5, writes(4, 9, 2, 5)...), api.ErrFull)
	x, e := journal.Find(d, 2, 5)
	want(t, "Find", len(x), 0)
	want(t, "Find", e, api.ErrCrash)
	n, e := journal.Replay(d, 2, 5)
	want(t, "Replay", n, 0)
	want(t, "Replay", e, api.ErrCrash)
	wantArg(t, d, 2, 8)
	d.Start()
	wantFound(t, d, 2, 5, l)
}

// TestFindIsNoStep: it finds a journal also where the next step crashes.
func TestFindIsNoStep(t *testing.T) {
	l := writes(2, 9, 2, 5)
	d := disk.New(9, 2)
	want(t, "Prepare", journal.Prepare(d, 2, 5, l...), api.OK)
	d.Arm(0, 0)
	wantFound(t, d, 2, 5, l)
	want(t, "Crashed", d.Crashed(), false)
	n, e := journal.Replay(d, 2, 5)
	want(t, "Replay", n, 0)
	want(t, "Replay", e, api.ErrCrash)
}

// masks returns all masks for that many writes, or some if they are many.
func masks(n int) []uint64 {
	if n > 6 {
		out := []uint64{0, math.MaxUint64, 0xaaaaaaaaaaaaaaaa, 0x5555555555555555, 0xff00ff00ff00ff00}
		for bit := range min(n, 64) {
			out = append(out, 1<<bit, ^uint64(1<<bit))
		}
		return out
	}
	var out []uint64
	for m := range uint64(1) << n {
		out = append(out, m)
	}
	return out
}

// TestCrashOfPrepare: P10.2, every step of Prepare, with every mask: nothing is written before Replay, and then all or none.
func TestCrashOfPrepare(t *testing.T) {
	const pages, at, size = 60, 5, 40
	for _, cache := range []int{1, 2, 5, 100} {
		for _, n := range []int{1, 2, 4, 33, 37} {
			l := writes(n, pages, at, size)
			steps := n + (n+31)/32 + 3
			for step := range steps + 1 {
				for _, mask := range masks(min(cache, n+1)) {
					d := filledDisk(t, pages, cache, at, size)
					before, after := outside(d, at, size), replayed(d, at, size, l)
					d.Arm(step, mask)
					e := journal.Prepare(d, at, size, l...)
					want(t, "error", e, map[bool]api.Errno{true: api.OK, false: api.ErrCrash}[step == steps])
					d.Start()
					want(t, "before Replay", slices.Equal(outside(d, at, size), before), true)
					got, e := journal.Replay(d, at, size)
					want(t, "Replay", e, api.OK)
					// the header is stable if it was flushed, or if it alone waited and its bit says so
					there := step == steps || step == steps-1 && mask&1 == 1
					if there {
						want(t, "Replay", got, n)
						want(t, "all", slices.Equal(outside(d, at, size), after), true)
					} else {
						want(t, "Replay", got, 0)
						want(t, "none", slices.Equal(outside(d, at, size), before), true)
					}
				}
			}
		}
	}
}

// TestCrashOfReplay: P10.2, every step of Replay, with every mask, and again while it is done anew.
func TestCrashOfReplay(t *testing.T) {
	const pages, at, size = 60, 5, 40
	for _, cache := range []int{1, 2, 5, 100} {
		for _, n := range []int{1, 2, 4, 33, 37} {
			l := writes(n, pages, at, size)
			prepared := filledDisk(t, pages, cache, at, size)
			want(t, "Prepare", journal.Prepare(prepared, at, size, l...), api.OK)
			after := replayed(prepared, at, size, l)
			for step := range n + 3 {
				for _, mask := range masks(min(cache, n)) {
					d := prepared.Clone()
					for again := range 3 {
						d.Arm(max(0, step-again), mask)
						if got, e := journal.Replay(d, at, size); got != 0 || e != api.ErrCrash && e != api.OK {
							t.Errorf("Replay: got %d, error %d", got, e)
						}
						d.Start()
					}
					got, e := journal.Replay(d, at, size)
					if got != 0 && got != n || e != api.OK {
						t.Errorf("Replay: got %d, error %d", got, e)
					}
					want(t, "all", slices.Equal(outside(d, at, size), after), true)
					wantNothing(t, "after Replay", d, at, size)
				}
			}
		}
	}
}

// TestCrashOfTheNext: a journal that was replayed does not come back, and the next one is there completely or not at all.
func TestCrashOfTheNext(t *testing.T) {
	const pages, at, size = 14, 3, 8
	first, second := writes(5, pages, at, size), []journal.Page{{At: 0, Data: page('a')}, {At: 13, Data: page('b')}, {At: 0, Data: page('c')}}
	for step := range 16 {
		for _, mask := range masks(4) {
			d := filledDisk(t, pages, 10, at, size)
			want(t, "Prepare", journal.Prepare(d, at, size, first...), api.OK)
			n, e := journal.Replay(d, at, size)
			want(t, "Replay", n, 5)
			want(t, "Replay", e, api.OK)
			before, after := outside(d, at, size), replayed(d, at, size, second)
			d.Arm(step, mask)
			if e = journal.Prepare(d, at, size, second...); e == api.OK {
				_, e = journal.Replay(d, at, size)
			}
			want(t, "error", e == api.OK, step >= 13)
			d.Start()
			_, e = journal.Replay(d, at, size)
			want(t, "Replay", e, api.OK)
			got := outside(d, at, size)
			if step > 6 {
				want(t, "all", slices.Equal(got, after), true)
			} else if !slices.Equal(got, before) && !slices.Equal(got, after) {
				t.Errorf("step %d, mask %b: a part", step, mask)
			}
		}
	}
}
