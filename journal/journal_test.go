package journal_test

import (
	"crypto/sha256"
	"encoding/binary"
	"fmt"
	"math"
	"slices"
	"strings"
	"testing"

	"sealwax/api"
	"sealwax/disk"
	"sealwax/journal"
)

// page returns a page that is full of one byte.
func page(b byte) string { return strings.Repeat(string([]byte{b}), 256) }

var zeros = page(0)

// numbered returns a page of its own for each number.
func numbered(i int) string { return padded(fmt.Sprintf("%d\x00\xff", i), 'x') }

// padded returns a page that begins with s.
func padded(s string, b byte) string { return s + page(b)[len(s):] }

// plainRoom is written apart from the program: it tries every number.
func plainRoom(size int) int {
	size = min(size, 4096)
	n := 0
	for 1+(n+1+31)/32+n+1 <= size {
		n++
	}
	return n
}

func number(n uint64) string { return string(binary.BigEndian.AppendUint64(nil, n)) }

// plainHeader is written apart from the program.
func plainHeader(n uint64, body []string) string {
	sum := sha256.Sum256([]byte(strings.Join(body, "")))
	return padded("SWJL"+number(n)+string(sum[:]), 0)
}

// plainBody returns the pages of a journal except its header, written apart from the program.
func plainBody(l []journal.Page) []string {
	numbers := ""
	for _, x := range l {
		numbers += number(uint64(x.At))
	}
	for len(numbers)%256 != 0 {
		numbers += "\x00"
	}
	var out []string
	for i := 0; i < len(numbers); i += 256 {
		out = append(out, numbers[i:i+256])
	}
	for _, x := range l {
		out = append(out, x.Data)
	}
	return out
}

// plainJournal returns all pages of a journal.
func plainJournal(l []journal.Page) []string {
	body := plainBody(l)
	return append([]string{plainHeader(uint64(len(l)), body)}, body...)
}

// stored returns a disk on which these pages are stable from page at on.
func stored(t *testing.T, pages, at int, l []string) *disk.Disk {
	t.Helper()
	d := disk.New(pages, 3)
	for i, s := range l {
		if !d.Over(at+i, s) {
			t.Fatalf("page %d of %d: no such page, or %d bytes", at+i, pages, len(s))
		}
	}
	return d
}

// writes returns n pages that are written beside a place, some of them more than once if there are few.
func writes(n, pages, at, size int) []journal.Page {
	var beside []int
	for p := range pages {
		if p < at || p >= at+size {
			beside = append(beside, p)
		}
	}
	var out []journal.Page
	for i := range n {
		out = append(out, journal.Page{At: beside[(5*i+i/7)%len(beside)], Data: numbered(i)})
	}
	return out
}

func want(t *testing.T, what string, got, wanted any) {
	t.Helper()
	if got != wanted {
		t.Errorf("%s: got %v, want %v", what, got, wanted)
	}
}

func wantFound(t *testing.T, d *disk.Disk, at, size int, wanted []journal.Page) {
	t.Helper()
	got, e := journal.Find(d, at, size)
	if !slices.Equal(got, wanted) || e != api.OK {
		t.Errorf("Find at %d of %d: got %d pages, error %d, want %d", at, size, len(got), e, len(wanted))
	}
}

// wantNothing checks that there is no journal, and that Replay does nothing.
func wantNothing(t *testing.T, what string, d *disk.Disk, at, size int) {
	t.Helper()
	stable, steps := d.Stable(), d.Steps()
	l, e := journal.Find(d, at, size)
	n, f := journal.Replay(d, at, size)
	if len(l) != 0 || e != api.OK || n != 0 || f != api.OK {
		t.Errorf("%s: got %d pages, error %d, and %d, error %d", what, len(l), e, n, f)
	}
	if d.Steps() != steps || !slices.Equal(d.Stable(), stable) {
		t.Errorf("%s: something was written", what)
	}
}

// wantArg checks that there is no such place for any function, and that nothing was done.
func wantArg(t *testing.T, d *disk.Disk, at, size int) {
	t.Helper()
	steps := d.Steps()
	l, e := journal.Find(d, at, size)
	n, f := journal.Replay(d, at, size)
	for i, x := range []api.Errno{e, f, journal.Prepare(d, at, size), journal.Prepare(d, at, size, journal.Page{At: 0, Data: page('a')}), journal.Prepare(d, at, size, make([]journal.Page, 5000)...)} {
		if x != api.ErrArg {
			t.Errorf("call %d at %d of %d: error %d", i, at, size, x)
		}
	}
	if len(l) != 0 || n != 0 || d.Steps() != steps {
		t.Errorf("at %d of %d: %d, %d, %d steps", at, size, len(l), n, d.Steps()-steps)
	}
}

func TestRoom(t *testing.T) {
	want(t, "Room(3)", journal.Room(3), 1)
	want(t, "Room(40)", journal.Room(40), 37)
	for size := range 4200 {
		if got := journal.Room(size); got != plainRoom(size) {
			t.Errorf("Room(%d): got %d, want %d", size, got, plainRoom(size))
		}
	}
	for _, size := range []int{-1, -2, -33, -4096, math.MinInt, math.MinInt + 1} {
		want(t, fmt.Sprint("Room of ", size), journal.Room(size), 0)
	}
	for _, size := range []int{4096, 4097, 1 << 20, 1 << 32, math.MaxInt - 1, math.MaxInt} {
		want(t, fmt.Sprint("Room of ", size), journal.Room(size), plainRoom(4096))
	}
}

// TestPlaces: all places on some disks, and beyond.
func TestPlaces(t *testing.T) {
	for _, pages := range []int{1, 2, 3, 4, 5, 9} {
		d := disk.New(pages, 2)
		for at := -3; at < pages+4; at++ {
			for size := -3; size < pages+4; size++ {
				if at >= 0 && size >= 3 && at+size <= pages {
					wantNothing(t, "a new disk", d, at, size)
					want(t, "Prepare of nothing", journal.Prepare(d, at, size), api.OK)
				} else {
					wantArg(t, d, at, size)
				}
			}
		}
	}
}

func TestNoSuchPlace(t *testing.T) {
	d := disk.New(9, 2)
	ends := []int{math.MinInt, math.MinInt + 1, math.MinInt + 9, -1 << 32, -1, 10, 1 << 32, math.MaxInt - 9, math.MaxInt - 1, math.MaxInt}
	for _, x := range ends {
		for _, y := range append(ends, 0, 3, 4, 9) {
			wantArg(t, d, x, y)
			wantArg(t, d, y, x)
		}
	}
}

// TestStoredBytes: what Prepare stores, byte by byte, and in which steps.
func TestStoredBytes(t *testing.T) {
	const at, size = 5, 103
	for _, n := range []int{1, 2, 31, 32, 33, 63, 64, 65, 95, 96, 97, 98} {
		d := disk.New(130, 200)
		l := writes(n, 130, at, size)
		want(t, "Prepare", journal.Prepare(d, at, size, l...), api.OK)
		wanted := plainJournal(l)
		var steps []disk.Op
		for i, s := range wanted[1:] {
			steps = append(steps, disk.Op{Kind: disk.Write, Page: at + 1 + i, Data: s})
		}
		steps = append(steps, disk.Op{Kind: disk.Flush}, disk.Op{Kind: disk.Write, Page: at, Data: wanted[0]}, disk.Op{Kind: disk.Flush})
		if !slices.Equal(d.View(), steps) {
			t.Errorf("%d pages: other steps", n)
		}
		for i, s := range d.Stable() {
			if i >= at && i < at+len(wanted) {
				want(t, fmt.Sprint("page ", i), s, wanted[i-at])
			} else {
				want(t, fmt.Sprint("page ", i), s, zeros)
			}
		}
		wantFound(t, d, at, size, l)
		wantFound(t, stored(t, 130, at, wanted), at, size, l)
	}
	want(t, "Room", journal.Room(size), 98)
}

// TestKnownHeader: bytes that another program made.
func TestKnownHeader(t *testing.T) {
	d := disk.New(4, 1)
	want(t, "Prepare", journal.Prepare(d, 0, 3, journal.Page{At: 3, Data: page('a')}), api.OK)
	got := fmt.Sprintf("%x", d.Stable()[0][:44])
	want(t, "header", got, "53574a4c0000000000000001463af83ed0997d03bfe3c9999846e84a7fb903677e06ea4e869f874622dc3db8")
	want(t, "numbers", d.Stable()[1], "\x00\x00\x00\x00\x00\x00\x00\x03"+zeros[8:])
}

// TestReplaySteps: the pages in order, then the header of zero bytes.
func TestReplaySteps(t *testing.T) {
	const at, size = 5, 70
	for _, n := range []int{1, 2, 32, 33, 66} {
		l := writes(n, 90, at, size)
		d := stored(t, 90, at, plainJournal(l))
		wanted := d.Stable()
		var steps []disk.Op
		for _, x := range l {
			steps = append(steps, disk.Op{Kind: disk.Write, Page: x.At, Data: x.Data})
			wanted[x.At] = x.Data
		}
		wanted[at] = zeros
		steps = append(steps, disk.Op{Kind: disk.Flush}, disk.Op{Kind: disk.Write, Page: at, Data: zeros}, disk.Op{Kind: disk.Flush})
		got, e := journal.Replay(d, at, size)
		want(t, "Replay", got, n)
		want(t, "Replay", e, api.OK)
		if !slices.Equal(d.View(), steps) || !slices.Equal(d.Stable(), wanted) {
			t.Errorf("%d pages: other steps, or other pages", n)
		}
		wantNothing(t, "after Replay", d, at, size)
	}
}

// TestEveryRoom: a place takes as many pages as Room says, and no more.
func TestEveryRoom(t *testing.T) {
	for size := 3; size < 110; size++ {
		for at := range 3 {
			d := disk.New(size+3, 4)
			n := journal.Room(size)
			l := writes(n+1, size+3, at, size)
			want(t, "Prepare of more", journal.Prepare(d, at, size, l...), api.ErrFull)
			want(t, "Steps", d.Steps(), 0)
			want(t, "Prepare", journal.Prepare(d, at, size, l[:n]...), api.OK)
			wantFound(t, d, at, size, l[:n])
			got, e := journal.Replay(d, at, size)
			want(t, "Replay", got, n)
			want(t, "Replay", e, api.OK)
		}
	}
}

// TestGreatestPlace: nearly all of the greatest disk.
func TestGreatestPlace(t *testing.T) {
	const size = 4095
	d := disk.New(4096, 256)
	for _, at := range []int{0, 1} {
		var l []journal.Page
		for i := range journal.Room(size) {
			l = append(l, journal.Page{At: 4095 * (1 - at), Data: numbered(i)})
		}
		more := append(slices.Clone(l), l[0])
		want(t, "Prepare of more", journal.Prepare(d, at, size, more...), api.ErrFull)
		want(t, "Prepare", journal.Prepare(d, at, size, l...), api.OK)
		wantFound(t, d, at, size, l)
		n, e := journal.Replay(d, at, size)
		want(t, "Replay", n, len(l))
		want(t, "Replay", e, api.OK)
		want(t, "the page", d.Stable()[l[0].At], numbered(n-1))
	}
	wantNothing(t, "the whole disk", d, 0, 4096)
	want(t, "Prepare on the whole disk", journal.Prepare(d, 0, 4096, journal.Page{At: 1, Data: zeros}), api.ErrArg)
}

// TestPrepareWrong: nothing is done, wherever the wrong page is; ErrArg goes before ErrFull, and before a crash.
func TestPrepareWrong(t *testing.T) {
	const pages, at, size = 20, 4, 9
	var wrong []journal.Page
	for p := at; p < at+size; p++ {
		wrong = append(wrong, journal.Page{At: p, Data: page('a')})
	}
	for _, p := range []int{-1, -4, math.MinInt, pages, pages + 1, 4096, 1 << 32, math.MaxInt} {
		wrong = append(wrong, journal.Page{At: p, Data: page('a')})
	}
	for _, data := range []string{"", "short", zeros[1:], zeros + "\x00", zeros + zeros} {
		wrong = append(wrong, journal.Page{At: 0, Data: data})
	}
	for _, crashed := range []bool{false, true} {
		d := disk.New(pages, 2)
		if crashed {
			d.Arm(0, 0)
			d.Flush()
		}
		for _, x := range wrong {
			for n := range 12 {
				l := writes(n+1, pages, at, size)
				for i := range l {
					bad := slices.Clone(l)
					bad[i] = x
					want(t, fmt.Sprintf("%d pages, page %d wrong", n+1, i), journal.Prepare(d, at, size, bad...), api.ErrArg)
				}
			}
		}
		want(t, "ErrFull", journal.Prepare(d, at, size, writes(8, pages, at, size)...), api.ErrFull)
		want(t, "Steps", d.Steps(), 0)
	}
}

// TestBeside: pages just beside the place are none of its own.
func TestBeside(t *testing.T) {
	d := disk.New(12, 2)
	l := []journal.Page{{At: 3, Data: page('a')}, {At: 9, Data: page('b')}, {At: 0, Data: page('c')}, {At: 11, Data: page('d')}}
	want(t, "Prepare", journal.Prepare(d, 4, 5, l[:1]...), api.OK)
	want(t, "Prepare", journal.Prepare(d, 4, 5, l[1:2]...), api.OK)
	want(t, "Prepare", journal.Prepare(d, 4, 5, l[2:]...), api.OK)
	wantFound(t, d, 4, 5, l[2:])
}

// TestPrepareOfNothing: a journal that is stored remains, and a disk that has crashed is not asked.
func TestPrepareOfNothing(t *testing.T) {
	d := disk.New(9, 2)
	l := writes(2, 9, 2, 5)
	want(t, "Prepare", journal.Prepare(d, 2, 5, l...), api.OK)
	steps := d.Steps()
	want(t, "Prepare", journal.Prepare(d, 2, 5), api.OK)
	want(t, "Prepare", journal.Prepare(d, 2, 5, []journal.Page{}...), api.OK)
	want(t, "Steps", d.Steps(), steps)
	wantFound(t, d, 2, 5, l)
	d.Arm(0, 0)
	want(t, "Prepare", journal.Prepare(d, 2, 5), api.OK)
	want(t, "Flush", d.Flush(), api.ErrCrash)
	want(t, "Prepare", journal.Prepare(d, 2, 5), api.OK)
}

// TestPrepareAgain: the newest journal is found, also if the one before it was longer.
func TestPrepareAgain(t *testing.T) {
	d := disk.New(80, 2)
	for _, n := range []int{50, 3, 40, 1, 32, 33, 31} {
		l := writes(n, 80, 10, 60)
		want(t, "Prepare", journal.Prepare(d, 10, 60, l...), api.OK)
		wantFound(t, d, 10, 60, l)
		wantFound(t, d.Clone(), 10, 3+len(plainJournal(l)), l)
	}
}

// TestListsAreLeftAlone: they are not changed, nor kept, nor is what lies behind them.
func TestListsAreLeftAlone(t *testing.T) {
	l := writes(5, 20, 8, 9)
	before := slices.Clone(l)
	d := disk.New(20, 2)
	want(t, "Prepare", journal.Prepare(d, 8, 9, l[:3]...), api.OK)
	want(t, "the list", slices.Equal(l, before), true)
	a, _ := journal.Find(d, 8, 9)
	b, _ := journal.Find(d, 8, 9)
	clear(a)
	_ = append(a, journal.Page{})
	want(t, "another result", slices.Equal(b, before[:3]), true)
	clear(l)
	wantFound(t, d, 8, 9, before[:3])
}

// TestComparable: rule 10.
func TestComparable(t *testing.T) {
	x := journal.Page{At: 1, Data: page('a')}
	seen := map[journal.Page]int{x: 7}
	want(t, "the page", seen[journal.Page{At: 1, Data: page('a')}], 7)
}
