package disk_test

import (
	"math"
	"slices"
	"testing"

	"sealwax/api"
	"sealwax/disk"
)

func TestOver(t *testing.T) {
	d := disk.New(3, 2)
	must(t, d.Write(0, page('a')), d.Flush(), d.Write(1, page('b')))
	want(t, "Over", d.Over(0, page('x')), true)
	want(t, "Over", d.Over(1, page('y')), true)
	want(t, "Over", d.Over(2, page('z')), true)
	wantStable(t, d, page('x'), page('y'), page('z'))
	wantRead(t, d, 0, page('x'))
	wantRead(t, d, 1, page('b')) // it still waits
	want(t, "Steps", d.Steps(), 3)
	want(t, "Cached", d.Cached(), 1)
	must(t, d.Flush())
	wantStable(t, d, page('x'), page('b'), page('z'))
}

func TestOverWrong(t *testing.T) {
	d := disk.New(3, 2)
	for _, p := range wrongPages(3) {
		want(t, "Over", d.Over(p, page('x')), false)
	}
	for _, data := range wrongData() {
		for p := range 3 {
			want(t, "Over", d.Over(p, data), false)
		}
	}
	wantStable(t, d)
}

func TestSwap(t *testing.T) {
	d := disk.New(3, 2)
	must(t, d.Write(0, page('a')), d.Write(1, page('b')), d.Flush(), d.Write(2, page('c')))
	want(t, "Swap", d.Swap(0, 1), true)
	wantStable(t, d, page('b'), page('a'))
	want(t, "Swap", d.Swap(2, 0), true)
	wantStable(t, d, zeros, page('a'), page('b'))
	want(t, "Swap", d.Swap(1, 1), true)
	wantStable(t, d, zeros, page('a'), page('b'))
	wantRead(t, d, 2, page('c'))
	want(t, "Steps", d.Steps(), 4)
	for _, p := range wrongPages(3) {
		want(t, "Swap", d.Swap(p, 1), false)
		want(t, "Swap", d.Swap(1, p), false)
		want(t, "Swap", d.Swap(p, p), false)
	}
	wantStable(t, d, zeros, page('a'), page('b'))
}

// TestSaveAndBack: a state is remembered whatever happens then, and can be restored again and again.
func TestSaveAndBack(t *testing.T) {
	d := disk.New(3, 2)
	want(t, "Save", d.Save(), 0)
	must(t, d.Write(0, page('a')), d.Flush(), d.Write(1, page('b')))
	want(t, "Save", d.Save(), 1)
	must(t, d.Flush())
	want(t, "Over", d.Over(2, page('c')), true)
	want(t, "Save", d.Save(), 2)
	states := [][]string{{}, {page('a')}, {page('a'), page('b'), page('c')}}
	for _, i := range []int{1, 1, 0, 2, 0, 1, 2, 2} {
		want(t, "Back", d.Back(i), true)
		wantStable(t, d, states[i]...)
		wantRead(t, d, 1, d.Stable()[1])
		d.Over(0, page('z'))
		d.Swap(1, 2)
		must(t, d.Write(1, page('y')), d.Flush())
	}
	steps := d.Steps()
	d.Back(0)
	want(t, "Steps", d.Steps(), steps)
}

// TestBackLeavesTheCache: only what is stable is restored.
func TestBackLeavesTheCache(t *testing.T) {
	d := disk.New(2, 2)
	must(t, d.Write(0, page('a')))
	i := d.Save()
	must(t, d.Write(1, page('b')))
	want(t, "Back", d.Back(i), true)
	want(t, "Cached", d.Cached(), 2)
	wantRead(t, d, 0, page('a'))
	wantRead(t, d, 1, page('b'))
	wantStable(t, d)
	must(t, d.Flush())
	wantStable(t, d, page('a'), page('b'))
}

func TestBackWrong(t *testing.T) {
	d := disk.New(2, 2)
	must(t, d.Write(0, page('a')), d.Flush())
	for n := range 3 {
		for _, i := range []int{n, n + 1, -1, math.MinInt, math.MaxInt, 16, 1 << 32} {
			want(t, "Back", d.Back(i), false)
		}
		want(t, "Save", d.Save(), n)
	}
	wantStable(t, d, page('a'))
}

// TestSixteenStates: no more are remembered, and those that are remain.
func TestSixteenStates(t *testing.T) {
	d := disk.New(1, 1)
	for i := range mostSaved {
		d.Over(0, numbered(i))
		want(t, "Save", d.Save(), i)
	}
	d.Over(0, page('z'))
	for range 3 {
		want(t, "Save", d.Save(), -1)
		want(t, "Save of the copy", d.Clone().Save(), -1)
	}
	d.Start()
	want(t, "Save", d.Save(), -1)
	wantStable(t, d, page('z'))
	for i := range mostSaved {
		want(t, "Back", d.Back(i), true)
		wantStable(t, d, numbered(i))
	}
	want(t, "Back", d.Back(mostSaved), false)
}

// TestAttackAfterACrash: the attacker needs no running disk, and starts none.
func TestAttackAfterACrash(t *testing.T) {
	d := disk.New(3, 2)
	must(t, d.Write(0, page('a')))
	d.Arm(0, 1)
	want(t, "Flush", d.Flush(), api.ErrCrash)
	i := d.Save()
	want(t, "Over", d.Over(1, page('b')), true)
	want(t, "Swap", d.Swap(0, 2), true)
	wantStable(t, d, zeros, page('b'), page('a'))
	want(t, "Back", d.Back(i), true)
	wantStable(t, d, page('a'))
	want(t, "Crashed", d.Crashed(), true)
	want(t, "Flush", d.Flush(), api.ErrCrash)
}

// TestCloneIsApart: what one does after it, the other one does not see.
func TestCloneIsApart(t *testing.T) {
	for _, swapped := range []bool{false, true} {
		d := disk.New(3, 2)
		must(t, d.Write(0, page('a')), d.Flush(), d.Write(1, page('b')))
		d.Save()
		c := d.Clone()
		if swapped {
			c, d = d, c
		}
		must(t, c.Write(1, page('c')), c.Flush(), c.Write(2, page('d')))
		c.Over(0, page('e'))
		want(t, "Save", c.Save(), 1)
		c.Arm(0, 0)
		c.Flush()
		want(t, "Crashed", d.Crashed(), false)
		want(t, "Steps", d.Steps(), 3)
		want(t, "View", len(d.View()), 3)
		want(t, "Cached", d.Cached(), 1)
		wantStable(t, d, page('a'))
		wantRead(t, d, 1, page('b'))
		want(t, "Back", d.Back(1), false)
		d.Over(0, page('f'))
		want(t, "Save", d.Save(), 1)
		want(t, "Back", c.Back(1), true)
		wantStable(t, c, page('e'), page('c'))
		want(t, "Back", c.Back(0), true)
		wantStable(t, c, page('a'))
		must(t, d.Flush())
		wantStable(t, d, page('f'), page('b'))
	}
}

// TestCloneHasItsOwnView: both go on by other steps, before and after the oldest ones are forgotten.
func TestCloneHasItsOwnView(t *testing.T) {
	for _, steps := range []int{0, 1, 2, 3, 5, 9, 100, mostView - 1, mostView, mostView + 1, mostView + 700} {
		d := disk.New(3, 2)
		var before []disk.Op
		for i := range steps {
			must(t, d.Write(i%3, numbered(i)))
			before = append(before, disk.Op{Kind: disk.Write, Page: i % 3, Data: numbered(i)})
		}
		c := d.Clone()
		ofDisk, ofClone := slices.Clone(before), slices.Clone(before)
		for i := range 5 {
			must(t, d.Write(1, numbered(7000+i)), c.Write(2, numbered(8000+i)))
			ofDisk = append(ofDisk, disk.Op{Kind: disk.Write, Page: 1, Data: numbered(7000 + i)})
			ofClone = append(ofClone, disk.Op{Kind: disk.Write, Page: 2, Data: numbered(8000 + i)})
		}
		want(t, "View of the disk", slices.Equal(d.View(), ofDisk[max(0, len(ofDisk)-mostView):]), true)
		want(t, "View of the copy", slices.Equal(c.View(), ofClone[max(0, len(ofClone)-mostView):]), true)
	}
}

// TestCloneHasItsOwnStates: what each remembers after it is its own, also under the same number.
func TestCloneHasItsOwnStates(t *testing.T) {
	for saved := range mostSaved {
		d := disk.New(1, 1)
		for i := range saved {
			d.Over(0, numbered(i))
			d.Save()
		}
		c := d.Clone()
		d.Over(0, page('d'))
		c.Over(0, page('c'))
		want(t, "Save", d.Save(), saved)
		want(t, "Save of the copy", c.Save(), saved)
		for i := range saved {
			for _, x := range []*disk.Disk{d, c} {
				want(t, "Back", x.Back(i), true)
				wantStable(t, x, numbered(i))
				x.Over(0, page('x'))
			}
		}
		want(t, "Back", d.Back(saved), true)
		want(t, "Back of the copy", c.Back(saved), true)
		wantStable(t, d, page('d'))
		wantStable(t, c, page('c'))
	}
}

// TestCloneGoesOnAlike: it is armed, has crashed, and has room in its cache as the disk.
func TestCloneGoesOnAlike(t *testing.T) {
	d := disk.New(4, 3)
	d.Arm(5, 0b101)
	for i := range 5 {
		must(t, d.Write(i%4, numbered(i)))
	}
	for _, c := range []*disk.Disk{d.Clone(), d.Clone().Clone(), d} {
		want(t, "Cached", c.Cached(), 3)
		want(t, "Write", c.Write(0, page('z')), api.ErrCrash)
		wantStable(t, c, numbered(4), numbered(1), numbered(2))
		e := c.Clone()
		want(t, "Crashed", e.Crashed(), true)
		want(t, "Flush", e.Flush(), api.ErrCrash)
		wantStable(t, e, c.Stable()...)
	}
}
