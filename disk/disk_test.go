package disk_test

import (
	"fmt"
	"math"
	"slices"
	"strings"
	"testing"

	"sealwax/api"
	"sealwax/disk"
)

const (
	mostView  = 4096
	mostSaved = 16
)

// page returns a page that is full of one byte.
func page(b byte) string { return strings.Repeat(string([]byte{b}), 256) }

// numbered returns a page of its own for each number.
func numbered(i int) string {
	s := fmt.Sprintf("%d\x00\xff", i)
	return s + strings.Repeat("x", 256-len(s))
}

var zeros = page(0)

// wrongData are texts that are no pages.
func wrongData() []string {
	return []string{"", "short", zeros[1:], zeros + "\x00", zeros + zeros, strings.Repeat("x", 1<<20)}
}

// wrongPages are numbers of no page of a disk.
func wrongPages(pages int) []int {
	return []int{pages, pages + 1, -1, -pages, math.MinInt, math.MinInt + 1, math.MaxInt, math.MaxInt - 1, 1 << 32, -1 << 32}
}

func must(t *testing.T, errs ...api.Errno) {
	t.Helper()
	for i, e := range errs {
		if e != api.OK {
			t.Fatalf("call %d: error %d", i, e)
		}
	}
}

func want(t *testing.T, what string, got, wanted any) {
	t.Helper()
	if got != wanted {
		t.Errorf("%s: got %v, want %v", what, got, wanted)
	}
}

// wantStable checks the first pages that are stable, and that all others have zero bytes.
func wantStable(t *testing.T, d *disk.Disk, first ...string) {
	t.Helper()
	got := d.Stable()
	if len(got) != d.Pages() {
		t.Fatalf("%d pages are stable, of %d", len(got), d.Pages())
	}
	for i, s := range got {
		wanted := zeros
		if i < len(first) {
			wanted = first[i]
		}
		if s != wanted {
			t.Errorf("stable page %d: got %.8q, want %.8q", i, s, wanted)
		}
	}
}

func wantRead(t *testing.T, d *disk.Disk, p int, wanted string) {
	t.Helper()
	if got, e := d.Read(p); got != wanted || e != api.OK {
		t.Errorf("page %d: got %.8q, error %d, want %.8q", p, got, e, wanted)
	}
}

// TestExample: example 1 of the chapter.
func TestExample(t *testing.T) {
	d := disk.New(4, 4)
	must(t, d.Write(1, page('a')))
	d.Arm(0, 1)
	want(t, "Flush", d.Flush(), api.ErrCrash)
	d.Start()
	wantRead(t, d, 1, page('a'))
	wantStable(t, d, zeros, page('a'))
}

func TestKinds(t *testing.T) {
	want(t, "Write", disk.Write, 1)
	want(t, "Flush", disk.Flush, 2)
}

func TestNew(t *testing.T) {
	for _, x := range []struct{ given, pages int }{
		{math.MinInt, 1}, {-1, 1}, {0, 1}, {1, 1}, {2, 2}, {100, 100}, {4095, 4095}, {4096, 4096}, {4097, 4096}, {1 << 32, 4096}, {math.MaxInt, 4096},
	} {
		d := disk.New(x.given, 1)
		want(t, "Pages", d.Pages(), x.pages)
		want(t, "Crashed", d.Crashed(), false)
		want(t, "Steps", d.Steps(), 0)
		want(t, "View", len(d.View()), 0)
		want(t, "Cached", d.Cached(), 0)
		wantStable(t, d)
		for p := range x.pages {
			wantRead(t, d, p, zeros)
		}
		for _, p := range wrongPages(x.pages) {
			s, e := d.Read(p)
			want(t, "Read", e, api.ErrArg)
			want(t, "Read", s, "")
		}
		want(t, "Back", d.Back(0), false)
		must(t, d.Write(x.pages-1, page('a')), d.Flush())
		wantRead(t, d, x.pages-1, page('a'))
	}
}

// TestCacheSizes: as many writes wait as there is room for, and then the oldest one becomes stable.
func TestCacheSizes(t *testing.T) {
	for _, x := range []struct{ given, cache int }{
		{math.MinInt, 1}, {-1, 1}, {0, 1}, {1, 1}, {2, 2}, {63, 63}, {64, 64}, {255, 255}, {256, 256}, {257, 256}, {1 << 32, 256}, {math.MaxInt, 256},
	} {
		d := disk.New(300, x.given)
		var stable []string
		for i := range 300 {
			must(t, d.Write(i, numbered(i)))
			if i >= x.cache {
				stable = append(stable, numbered(i-x.cache))
			}
			want(t, "Cached", d.Cached(), min(i+1, x.cache))
			if i > 250 || i < 5 {
				wantStable(t, d, stable...)
			}
		}
		c := d.Clone()
		must(t, c.Write(0, zeros))
		want(t, "Cached of the copy", c.Cached(), x.cache)
	}
}

// TestSamePageWaitsTwice: each write of a page is one of its own; the newest one is read.
func TestSamePageWaitsTwice(t *testing.T) {
	d := disk.New(2, 3)
	for i := range 10 {
		must(t, d.Write(0, numbered(i)))
		wantRead(t, d, 0, numbered(i))
		wantRead(t, d, 1, zeros)
		if i >= 3 {
			wantStable(t, d, numbered(i-3))
		} else {
			wantStable(t, d)
		}
	}
	want(t, "Cached", d.Cached(), 3)
	must(t, d.Flush())
	wantStable(t, d, numbered(9))
	want(t, "Cached", d.Cached(), 0)
}

// TestReadIsNoStep: it changes nothing, however often it is called, also not the order in the cache.
func TestReadIsNoStep(t *testing.T) {
	d := disk.New(4, 3)
	must(t, d.Write(0, page('a')), d.Write(1, page('b')), d.Write(0, page('c')))
	d.Arm(1, 0)
	for range 20 {
		wantRead(t, d, 0, page('c'))
		wantRead(t, d, 1, page('b'))
		wantRead(t, d, 2, zeros)
		d.Read(4)
	}
	want(t, "Steps", d.Steps(), 3)
	want(t, "Cached", d.Cached(), 3)
	wantStable(t, d)
	must(t, d.Write(2, page('d')))
	wantStable(t, d, page('a'))
	want(t, "Flush", d.Flush(), api.ErrCrash)
}

// TestWrongArguments: they are no steps, and change nothing, also if the disk would crash at a step.
func TestWrongArguments(t *testing.T) {
	for _, armed := range []bool{false, true} {
		d := disk.New(3, 2)
		must(t, d.Write(0, page('a')))
		if armed {
			d.Arm(0, 0)
		}
		for _, p := range wrongPages(3) {
			want(t, "Write", d.Write(p, page('b')), api.ErrArg)
			want(t, "Write", d.Write(p, "short"), api.ErrArg)
			s, e := d.Read(p)
			want(t, "Read", s, "")
			want(t, "Read", e, api.ErrArg)
		}
		for _, data := range wrongData() {
			want(t, "Write", d.Write(1, data), api.ErrArg)
		}
		want(t, "Steps", d.Steps(), 1)
		want(t, "View", len(d.View()), 1)
		want(t, "Cached", d.Cached(), 1)
		want(t, "Crashed", d.Crashed(), false)
		wantStable(t, d)
		wantRead(t, d, 0, page('a'))
		if armed {
			want(t, "Write", d.Write(0, page('b')), api.ErrCrash)
		} else {
			want(t, "Flush", d.Flush(), api.OK)
		}
	}
}

// TestWhenCrashed: every call says so, whatever its arguments are, and none is a step.
func TestWhenCrashed(t *testing.T) {
	d := disk.New(3, 2)
	must(t, d.Write(0, page('a')), d.Flush(), d.Write(1, page('b')))
	d.Arm(0, 0)
	want(t, "Write", d.Write(2, page('c')), api.ErrCrash)
	for range 3 {
		for _, p := range append(wrongPages(3), 0, 1, 2) {
			want(t, "Write", d.Write(p, page('d')), api.ErrCrash)
			want(t, "Write", d.Write(p, ""), api.ErrCrash)
			s, e := d.Read(p)
			want(t, "Read", s, "")
			want(t, "Read", e, api.ErrCrash)
		}
		want(t, "Flush", d.Flush(), api.ErrCrash)
		d.Arm(5, math.MaxUint64)
	}
	want(t, "Crashed", d.Crashed(), true)
	want(t, "Steps", d.Steps(), 3)
	want(t, "View", len(d.View()), 3)
	want(t, "Cached", d.Cached(), 0)
	want(t, "Pages", d.Pages(), 3)
	wantStable(t, d, page('a'))
	d.Start()
	want(t, "Crashed", d.Crashed(), false)
	wantRead(t, d, 0, page('a'))
	wantRead(t, d, 1, zeros)
	for range 10 { // Start has also undone what was armed meanwhile
		must(t, d.Write(1, page('e')), d.Flush())
	}
	want(t, "Steps", d.Steps(), 23)
}

// TestArm: that many steps are performed, Writes and Flushes alike, and the next one crashes.
func TestArm(t *testing.T) {
	for steps := range 30 {
		d := disk.New(3, 2)
		must(t, d.Write(0, page('a')), d.Flush())
		d.Arm(steps, 0)
		next := func(i int) api.Errno {
			if i%3 == 2 {
				return d.Flush()
			}
			return d.Write(1, numbered(i))
		}
		for i := range steps {
			want(t, "a step", next(i), api.OK)
			want(t, "Crashed", d.Crashed(), false)
		}
		want(t, "the next step", next(steps), api.ErrCrash)
		want(t, "Crashed", d.Crashed(), true)
		want(t, "Steps", d.Steps(), 2+steps)
	}
}

// TestArmAgain: the last one counts, and a negative one means that no step crashes.
func TestArmAgain(t *testing.T) {
	d := disk.New(1, 1)
	for _, steps := range []int{-1, -2, math.MinInt, math.MinInt + 1, math.MaxInt} {
		d.Arm(0, 0)
		d.Arm(steps, math.MaxUint64)
		for i := range 300 {
			must(t, d.Write(0, numbered(i)), d.Flush())
		}
	}
	d.Arm(0, 0)
	d.Arm(2, 1)
	d.Arm(3, 0)
	must(t, d.Write(0, page('a')), d.Flush(), d.Write(0, page('b')))
	want(t, "Write", d.Write(0, page('c')), api.ErrCrash)
	wantStable(t, d, page('a'))
}

// TestStart: what waits is lost, and nothing crashes any more, also without a crash before it.
func TestStart(t *testing.T) {
	d := disk.New(2, 3)
	must(t, d.Write(0, page('a')), d.Flush(), d.Write(0, page('b')), d.Write(1, page('c')))
	d.Arm(0, math.MaxUint64)
	view := d.View()
	d.Start()
	want(t, "Cached", d.Cached(), 0)
	want(t, "Steps", d.Steps(), 4)
	want(t, "View", slices.Equal(d.View(), view), true)
	wantStable(t, d, page('a'))
	wantRead(t, d, 0, page('a'))
	must(t, d.Flush(), d.Write(1, page('d')), d.Flush())
	wantStable(t, d, page('a'), page('d'))
}

// TestMask: P9.2, of what waits exactly what the mask says becomes stable, whichever step crashes.
func TestMask(t *testing.T) {
	for n := range 7 {
		for mask := range uint64(1 << 8) {
			for _, flush := range []bool{false, true} {
				d := disk.New(8, 8)
				var wanted []string
				for i := range n {
					must(t, d.Write(i, numbered(i)))
					wanted = append(wanted, zeros)
					if mask&(1<<i) != 0 {
						wanted[i] = numbered(i)
					}
				}
				d.Arm(0, mask)
				if flush {
					want(t, "Flush", d.Flush(), api.ErrCrash)
				} else {
					want(t, "Write", d.Write(7, page('z')), api.ErrCrash)
				}
				wantStable(t, d, wanted...)
				want(t, "Cached", d.Cached(), 0)
				d.Start()
				wantStable(t, d, wanted...)
			}
		}
	}
}

// TestMaskOfOnePage: of several writes of a page the newest one that becomes stable remains.
func TestMaskOfOnePage(t *testing.T) {
	for mask := range uint64(1 << 6) {
		d := disk.New(1, 6)
		wanted := zeros
		for i := range 6 {
			must(t, d.Write(0, numbered(i)))
			if mask&(1<<i) != 0 {
				wanted = numbered(i)
			}
		}
		d.Arm(0, mask)
		d.Flush()
		wantStable(t, d, wanted)
	}
}

// TestMaskBits: each bit is that of one write, and there are none for those after the 64th.
func TestMaskBits(t *testing.T) {
	for _, waiting := range []int{1, 63, 64, 65, 66, 128, 129, 200, 256} {
		masks := []uint64{0, math.MaxUint64, 0xaaaaaaaaaaaaaaaa, 0x8000000000000001}
		for bit := range 64 {
			masks = append(masks, 1<<bit)
		}
		for _, mask := range masks {
			d := disk.New(300, 256)
			var wanted []string
			for i := range waiting {
				must(t, d.Write(i, numbered(i)))
				if i < 64 && mask>>i&1 == 1 {
					wanted = append(wanted, numbered(i))
				} else {
					wanted = append(wanted, zeros)
				}
			}
			d.Arm(0, mask)
			want(t, "Flush", d.Flush(), api.ErrCrash)
			wantStable(t, d, wanted...)
		}
	}
}

// TestMaskAfterRoomWasMade: bits are counted from the oldest write that still waits.
func TestMaskAfterRoomWasMade(t *testing.T) {
	d := disk.New(6, 3)
	for i := range 5 {
		must(t, d.Write(i, numbered(i)))
	}
	d.Arm(0, 0b101)
	want(t, "Write", d.Write(5, page('z')), api.ErrCrash)
	wantStable(t, d, numbered(0), numbered(1), numbered(2), zeros, numbered(4))
}

// TestFlushedStays: P9.2, whatever crash follows.
func TestFlushedStays(t *testing.T) {
	for steps := range 5 {
		for mask := range uint64(1 << 4) {
			d := disk.New(8, 8)
			for i := range 4 {
				must(t, d.Write(i, page('a')))
			}
			must(t, d.Flush())
			d.Arm(steps, mask)
			wanted := []string{page('a'), page('a'), page('a'), page('a'), zeros, zeros, zeros, zeros}
			for i := range 5 {
				if e := d.Write(3+i, page('b')); e == api.OK && mask&(1<<i) != 0 {
					wanted[3+i] = page('b')
				}
			}
			d.Flush()
			want(t, "Crashed", d.Crashed(), true)
			wantStable(t, d, wanted...)
		}
	}
}

func TestView(t *testing.T) {
	d := disk.New(3, 1)
	var wanted []disk.Op
	for i := range 3*mostView + 5 {
		if i%5 == 4 {
			must(t, d.Flush())
			wanted = append(wanted, disk.Op{Kind: disk.Flush})
		} else {
			must(t, d.Write(i%3, numbered(i)))
			wanted = append(wanted, disk.Op{Kind: disk.Write, Page: i % 3, Data: numbered(i)})
		}
		if i%1000 == 0 {
			d.Start()
		}
		want(t, "Steps", d.Steps(), len(wanted))
		if i < 10 || i%mostView < 3 || i%mostView > mostView-3 {
			last := wanted[max(0, len(wanted)-mostView):]
			if !slices.Equal(d.View(), last) || !slices.Equal(d.Clone().View(), last) {
				t.Errorf("View after %d steps", len(wanted))
			}
		}
	}
}

// TestViewHasNoCrash: nor anything else that is not a step that was performed.
func TestViewHasNoCrash(t *testing.T) {
	d := disk.New(3, 1)
	must(t, d.Write(2, page('a')))
	d.Write(3, page('b'))
	d.Write(0, "short")
	d.Read(0)
	d.Over(1, page('c'))
	d.Swap(0, 1)
	d.Back(d.Save())
	d.Arm(0, 1)
	d.Flush()
	d.Flush()
	d.Start()
	must(t, d.Flush())
	wanted := []disk.Op{{Kind: disk.Write, Page: 2, Data: page('a')}, {Kind: disk.Flush}}
	if !slices.Equal(d.View(), wanted) || d.Steps() != 2 {
		t.Errorf("%d steps", d.Steps())
	}
}

// TestResultsAreApart: what is done to them does not reach the disk, nor each other, nor does the disk change them later.
func TestResultsAreApart(t *testing.T) {
	for _, steps := range []int{3, 4, 5, mostView, mostView + 10} {
		d := disk.New(3, 1)
		var wanted []disk.Op
		for i := range steps {
			must(t, d.Write(i%3, numbered(i)))
			wanted = append(wanted, disk.Op{Kind: disk.Write, Page: i % 3, Data: numbered(i)})
		}
		wanted = wanted[max(0, steps-mostView):]
		pages := make([]string, 3)
		for i := range 3 {
			pages[i] = zeros
		}
		for i := range steps - 1 {
			pages[i%3] = numbered(i)
		}
		stable, view := d.Stable(), d.View()
		for range 2 {
			a, b := d.Stable(), d.View()
			want(t, "Stable", slices.Equal(a, pages), true)
			want(t, "View", slices.Equal(b, wanted), true)
			clear(a)
			clear(b)
			_, _ = append(a, "x"), append(b, disk.Op{})
		}
		wantStable(t, d, pages...)
		want(t, "View", slices.Equal(d.View(), wanted), true)
		must(t, d.Write(0, page('y')), d.Flush())
		d.Over(1, page('z'))
		want(t, "the first Stable", slices.Equal(stable, pages), true)
		want(t, "the first View", slices.Equal(view, wanted), true)
	}
}

// TestComparable: rule 10.
func TestComparable(t *testing.T) {
	seen := map[disk.Op]int{{Kind: disk.Write, Page: 1, Data: page('a')}: 7}
	d := disk.New(2, 1)
	must(t, d.Write(1, page('a')))
	want(t, "the step", seen[d.View()[0]], 7)
}
