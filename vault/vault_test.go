package vault_test

import (
	"encoding/binary"
	"fmt"
	"slices"
	"strings"
	"testing"

	"sealwax/api"
	"sealwax/disk"
	"sealwax/suite"
	"sealwax/vault"
)

// page returns a page of a vault that is full of one byte.
func page(b byte) string { return strings.Repeat(string([]byte{b}), 240) }

// numbered returns a page of a vault of its own for each number.
func numbered(i int) string {
	s := fmt.Sprintf("%d\x00\xff", i)
	return s + page('x')[len(s):]
}

func zeros(n int) string { return strings.Repeat("\x00", n) }

// padded returns a page of the disk that begins with s.
func padded(s string) string { return s + zeros(256-len(s)) }

func number(n int) string { return string(binary.BigEndian.AppendUint64(nil, uint64(n))) }

// tape returns bytes for an ideal suite that seem to have no order.
func tape(n int) string {
	out, x := make([]byte, n), uint32(n)
	for i := range out {
		x = x*1664525 + 1013904223
		out[i] = byte(x >> 24)
	}
	return string(out)
}

func suites() map[string]*suite.Suite {
	return map[string]*suite.Suite{"real": suite.Real("key"), "ideal": suite.Ideal(tape(9973))}
}

func want[T comparable](t *testing.T, what string, got, wanted T) {
	t.Helper()
	if got != wanted {
		t.Errorf("%s: got %v, want %v", what, got, wanted)
	}
}

// rig is a vault with all that it uses.
type rig struct {
	d  *disk.Disk
	s  *suite.Suite
	tr *vault.Trusted
	c  vault.Config
	v  *vault.Vault
}

// newRig returns a formatted vault; both numbers are within their limits.
func newRig(t *testing.T, s *suite.Suite, pages, size, cache int) *rig {
	t.Helper()
	r := &rig{s: s, tr: &vault.Trusted{}, c: vault.Config{Pages: pages, Journal: size}}
	r.d = disk.New(r.pageAt(pages), cache)
	r.format(t)
	return r
}

func (r *rig) format(t *testing.T) {
	t.Helper()
	v, e := vault.Format(r.d, r.s, r.tr, r.c)
	if e != api.OK || v == nil {
		t.Fatalf("Format: error %d", e)
	}
	r.v = v
}

func (r *rig) open(t *testing.T) {
	t.Helper()
	v, e := vault.Open(r.d, r.s, r.tr, r.c)
	if e != api.OK || v == nil {
		t.Fatalf("Open: error %d", e)
	}
	r.v = v
}

// clone returns an independent copy without a vault.
func (r *rig) clone() *rig {
	tr := *r.tr
	return &rig{d: r.d.Clone(), s: r.s.Clone(), tr: &tr, c: r.c}
}

// leafAt and pageAt tell where parts are on the disk, written apart from the program.
func (r *rig) leafAt(p int) int { return 1 + r.c.Journal + p/16 }

func (r *rig) pageAt(p int) int {
	at := 1 + r.c.Journal + r.c.Pages/16 + p
	if r.c.Pages%16 != 0 {
		at++
	}
	return at
}

func (r *rig) write(t *testing.T, p int, data string) {
	t.Helper()
	want(t, fmt.Sprint("Write ", p), r.v.Write(p, data), api.OK)
}

func (r *rig) commit(t *testing.T) {
	t.Helper()
	want(t, "Commit", r.v.Commit(), api.OK)
}

func wantPage(t *testing.T, v *vault.Vault, p int, wanted string) {
	t.Helper()
	if got, e := v.Read(p); got != wanted || e != api.OK {
		t.Errorf("page %d: got %.12q, error %d, want %.12q", p, got, e, wanted)
	}
}

func wantNoPage(t *testing.T, v *vault.Vault, p int, wanted api.Errno) {
	t.Helper()
	if got, e := v.Read(p); got != "" || e != wanted {
		t.Errorf("page %d: got %.12q, error %d, want error %d", p, got, e, wanted)
	}
}

func wantNoOpen(t *testing.T, what string, r *rig, wanted api.Errno) {
	t.Helper()
	boot, commit := r.tr.Boot, r.tr.Commit
	if v, e := vault.Open(r.d, r.s, r.tr, r.c); v != nil || e != wanted {
		t.Errorf("%s: Open: got %v, error %d, want error %d", what, v != nil, e, wanted)
	}
	want(t, what+": Boot", r.tr.Boot, boot+1)
	want(t, what+": Commit", r.tr.Commit, commit)
}

// TestExample: example 1 of the chapter, P13.2.
func TestExample(t *testing.T) {
	for name, s := range suites() {
		t.Run(name, func(t *testing.T) {
			r := newRig(t, s, 5, 9, 4)
			r.write(t, 0, page('a'))
			r.commit(t)
			r.open(t)
			wantPage(t, r.v, 0, page('a'))
		})
	}
}

// TestConfig: how many pages of a disk are needed, with both limits.
func TestConfig(t *testing.T) {
	const least, most = -1 << 63, 1<<63 - 1
	for _, x := range []struct{ pages, journal, want int }{
		{1, 3, 1 + 3 + 1 + 1},
		{15, 3, 1 + 3 + 1 + 15},
		{16, 3, 1 + 3 + 1 + 16},
		{17, 3, 1 + 3 + 2 + 17},
		{32, 4, 1 + 4 + 2 + 32},
		{33, 4, 1 + 4 + 3 + 33},
		{1023, 511, 1 + 511 + 64 + 1023},
		{1024, 512, 1 + 512 + 64 + 1024},
		{1025, 513, 1 + 512 + 64 + 1024},
		{1008, 3, 1 + 3 + 63 + 1008},
		{0, 2, 1 + 3 + 1 + 1},
		{-1, 0, 1 + 3 + 1 + 1},
		{0, -7, 1 + 3 + 1 + 1},
		{least, least, 1 + 3 + 1 + 1},
		{most, most, 1 + 512 + 64 + 1024},
		{most, least, 1 + 3 + 64 + 1024},
		{20, 600, 1 + 512 + 2 + 20},
	} {
		want(t, fmt.Sprint(x), vault.Config{Pages: x.pages, Journal: x.journal}.Disk(), x.want)
	}
}

// TestLimits: a vault has as many pages as its Config, and as much room, both limited.
func TestLimits(t *testing.T) {
	for _, x := range []struct{ pages, journal, has, room int }{
		{1, 3, 1, 0},           // the journal has 1, one page of leaves and the header are 2
		{1, 4, 1, 0},           // 2
		{1, 5, 1, 1},           // 3
		{16, 12, 16, 8},        // 10
		{17, 12, 17, 7},        // the same with two pages of leaves
		{20, 34, 20, 29},       // 32
		{20, 35, 20, 29},       // 32: the 33rd needs two pages
		{20, 36, 20, 30},       // 33
		{1024, 512, 1024, 430}, // 495, 64 pages of leaves
		{2000, 9000, 1024, 430},
		{-5, -5, 1, 0},
		{1024, 50, 1024, 0}, // 47
		{1024, 70, 1024, 1}, // 66
		{1024, 69, 1024, 0}, // 65
	} {
		c := vault.Config{Pages: x.pages, Journal: x.journal}
		d := disk.New(4096, 256)
		tr := &vault.Trusted{}
		v, e := vault.Format(d, suite.Real(""), tr, c)
		want(t, fmt.Sprint(x, ": Format"), e, api.OK)
		want(t, fmt.Sprint(x, ": Pages"), v.Pages(), x.has)
		want(t, fmt.Sprint(x, ": Room"), v.Room(), x.room)
		wantPage(t, v, x.has-1, zeros(240))
		wantNoPage(t, v, x.has, api.ErrArg)
		v, e = vault.Open(d, suite.Real(""), tr, c)
		want(t, fmt.Sprint(x, ": Open"), e, api.OK)
		want(t, fmt.Sprint(x, ": Pages"), v.Pages(), x.has)
		want(t, fmt.Sprint(x, ": Room"), v.Room(), x.room)
	}
}

// TestSmallDisk: ErrArg, and nothing has changed, also if the disk has crashed. One page more is enough.
func TestSmallDisk(t *testing.T) {
	for _, c := range []vault.Config{{}, {Pages: 1, Journal: 3}, {Pages: 17, Journal: 9}, {Pages: 1 << 40, Journal: 1 << 40}} {
		for _, crashed := range []bool{false, true} {
			d := disk.New(c.Disk()-1, 1)
			if crashed {
				d.Arm(0, 0)
				d.Flush()
			}
			tr := &vault.Trusted{Boot: 7, Commit: 9}
			s := suite.Ideal("tape")
			v, e := vault.Format(d, s, tr, c)
			w, f := vault.Open(d, s, tr, c)
			if v != nil || w != nil || e != api.ErrArg || f != api.ErrArg {
				t.Errorf("%v: %v, error %d; %v, error %d", c, v != nil, e, w != nil, f)
			}
			want(t, "Trusted", *tr, vault.Trusted{Boot: 7, Commit: 9})
			want(t, "steps", d.Steps(), 0)
			want(t, "Drawn", s.Drawn(), 0)
		}
		tr := &vault.Trusted{}
		v, e := vault.Format(disk.New(c.Disk(), 1), suite.Ideal("tape"), tr, c)
		if v == nil || e != api.OK {
			t.Errorf("%v: %v, error %d", c, v != nil, e)
		}
	}
}

// TestNumbers: Boot counts what was formatted or opened, and Commit is the number of the last commit.
func TestNumbers(t *testing.T) {
	const step = 1 << 20
	for name, s := range suites() {
		t.Run(name, func(t *testing.T) {
			r := newRig(t, s, 20, 12, 8)
			want(t, "Format", *r.tr, vault.Trusted{Boot: 1, Commit: step})
			r.commit(t) // nothing
			want(t, "Commit of nothing", *r.tr, vault.Trusted{Boot: 1, Commit: step})
			for i := range 3 {
				r.write(t, i, numbered(i))
				want(t, "Write", *r.tr, vault.Trusted{Boot: 1, Commit: step + i})
				r.commit(t)
				want(t, "Commit", *r.tr, vault.Trusted{Boot: 1, Commit: step + i + 1})
			}
			r.open(t)
			want(t, "Open", *r.tr, vault.Trusted{Boot: 2, Commit: step + 3})
			r.open(t)
			want(t, "Open", *r.tr, vault.Trusted{Boot: 3, Commit: step + 3})
			r.write(t, 0, numbered(9))
			r.commit(t)
			want(t, "Commit", *r.tr, vault.Trusted{Boot: 3, Commit: 3*step + 1})
			r.format(t)
			want(t, "Format", *r.tr, vault.Trusted{Boot: 4, Commit: 4 * step})
			wantPage(t, r.v, 0, page(0))
		})
	}
}

// TestTrustedBefore: a vault goes on from the numbers that are passed, for as many opens as fit.
func TestTrustedBefore(t *testing.T) {
	for _, boot := range []int{0, 1, 41, 1<<40 - 3} {
		r := &rig{s: suite.Real("key"), tr: &vault.Trusted{Boot: boot, Commit: 12345}, c: vault.Config{Pages: 3, Journal: 9}}
		r.d = disk.New(r.c.Disk(), 5)
		r.format(t)
		want(t, "Format", *r.tr, vault.Trusted{Boot: boot + 1, Commit: (boot + 1) << 20})
		r.write(t, 1, page('a'))
		r.commit(t)
		r.open(t)
		want(t, "Open", *r.tr, vault.Trusted{Boot: boot + 2, Commit: (boot+1)<<20 + 1})
		wantPage(t, r.v, 1, page('a'))
		wantPage(t, r.v, 2, page(0))
	}
}

// TestAnyTrusted: rule 1, whatever numbers are passed, each call returns.
func TestAnyTrusted(t *testing.T) {
	for _, boot := range []int{-1 << 63, -1 << 43, -2, -1, 1 << 40, 1 << 43, 1<<63 - 2, 1<<63 - 1} {
		for _, s := range suites() {
			r := &rig{s: s, tr: &vault.Trusted{Boot: boot, Commit: boot}, c: vault.Config{Pages: 3, Journal: 9}}
			r.d = disk.New(r.c.Disk(), 5)
			vault.Open(r.d, r.s, r.tr, r.c)
			r.format(t)
			want(t, "Boot", r.tr.Boot, boot+2)
			want(t, "Commit", r.tr.Commit, (boot+2)<<20)
			r.write(t, 1, page('a'))
			r.commit(t)
			r.v.Read(1)
			r.v.Read(2)
			vault.Open(r.d, r.s, r.tr, r.c)
		}
	}
}

// TestErrors: each error of Read and Write, with nothing else, and nothing has changed.
func TestErrors(t *testing.T) {
	for name, s := range suites() {
		t.Run(name, func(t *testing.T) {
			r := newRig(t, s, 20, 12, 8)
			r.write(t, 3, page('a'))
			steps := r.d.Steps()
			for _, p := range []int{-1 << 63, -21, -1, 20, 21, 32, 1024, 1 << 40, 1<<63 - 1} {
				wantNoPage(t, r.v, p, api.ErrArg)
				want(t, fmt.Sprint("Write ", p), r.v.Write(p, page('b')), api.ErrArg)
			}
			for _, n := range []int{0, 1, 239, 241, 256, 480, 100000} {
				want(t, fmt.Sprint("Write of ", n), r.v.Write(3, zeros(n)), api.ErrArg)
				want(t, fmt.Sprint("Write of ", n), r.v.Write(4, zeros(n)), api.ErrArg)
			}
			want(t, "Dirty", fmt.Sprint(r.v.Dirty()), "[3]")
			wantPage(t, r.v, 3, page('a'))
			wantPage(t, r.v, 4, page(0))
			want(t, "Err", r.v.Err(), api.OK)
			want(t, "steps", r.d.Steps(), steps)
		})
	}
}

// TestWritten: what was written is read at once, is on the disk from Commit on, and is gone after Drop.
func TestWritten(t *testing.T) {
	for name, s := range suites() {
		t.Run(name, func(t *testing.T) {
			r := newRig(t, s, 20, 14, 8)
			want(t, "Dirty", len(r.v.Dirty()), 0)
			for _, p := range []int{19, 0, 7, 16, 7} {
				r.write(t, p, numbered(p))
			}
			want(t, "Dirty", fmt.Sprint(r.v.Dirty()), "[0 7 16 19]")
			r.write(t, 7, page('7'))
			want(t, "Dirty", fmt.Sprint(r.v.Dirty()), "[0 7 16 19]")
			wantPage(t, r.v, 7, page('7'))
			drawn, steps := s.Drawn(), r.d.Steps()
			r.v.Drop()
			want(t, "Dirty", len(r.v.Dirty()), 0)
			for _, p := range []int{19, 0, 7, 16} {
				wantPage(t, r.v, p, page(0))
			}
			r.commit(t)
			want(t, "Drawn", s.Drawn(), drawn)
			want(t, "steps", r.d.Steps(), steps)
			r.write(t, 16, page('a'))
			r.write(t, 15, page('b'))
			r.commit(t)
			want(t, "Dirty", len(r.v.Dirty()), 0)
			r.write(t, 16, page('c'))
			want(t, "Dirty", fmt.Sprint(r.v.Dirty()), "[16]")
			wantPage(t, r.v, 16, page('c'))
			r.v.Drop()
			wantPage(t, r.v, 16, page('a'))
			wantPage(t, r.v, 15, page('b'))
			wantPage(t, r.v, 14, page(0))
			r.write(t, 16, page('d'))
			r.open(t) // what was not committed is lost
			wantPage(t, r.v, 16, page('a'))
			want(t, "Dirty", len(r.v.Dirty()), 0)
		})
	}
}

// TestZerosAreSealed: zero bytes that were written are a page like others.
func TestZerosAreSealed(t *testing.T) {
	r := newRig(t, suite.Ideal(tape(9973)), 3, 9, 8)
	r.write(t, 1, page(0))
	r.commit(t)
	wantPage(t, r.v, 1, page(0))
	r.d.Over(r.pageAt(1), zeros(256))
	wantNoPage(t, r.v, 1, api.ErrTampered)
}

// TestRoom: as many pages as Room are committed, also if all pages of leaves have one of theirs; one more is ErrFull, and nothing has changed.
func TestRoom(t *testing.T) {
	for name, s := range suites() {
		for _, x := range []struct{ pages, journal int }{{20, 12}, {1, 5}, {33, 50}, {64, 36}, {200, 49}, {200, 51}, {33, 8}, {5, 3}, {1024, 512}} {
			t.Run(fmt.Sprint(name, x), func(t *testing.T) {
				s := s.Clone()
				r := newRig(t, s, x.pages, x.journal, 40)
				n := r.v.Room()
				for i := range min(n, x.pages) {
					r.write(t, i*7%x.pages, numbered(i))
				}
				for len(r.v.Dirty()) < min(n, x.pages) { // where 7 is no generator
					r.write(t, len(r.v.Dirty()), page('y'))
				}
				r.commit(t)
				stable, tr, drawn, steps := r.d.Stable(), *r.tr, s.Drawn(), r.d.Steps()
				if n >= x.pages {
					return
				}
				for i := range n + 1 {
					r.write(t, x.pages-1-i, page('z'))
				}
				want(t, "Commit", r.v.Commit(), api.ErrFull)
				want(t, "Err", r.v.Err(), api.OK)
				want(t, "Dirty", len(r.v.Dirty()), n+1)
				wantPage(t, r.v, x.pages-1, page('z'))
				if !slices.Equal(r.d.Stable(), stable) || *r.tr != tr || s.Drawn() != drawn || r.d.Steps() != steps {
					t.Error("something has changed")
				}
				want(t, "Commit again", r.v.Commit(), api.ErrFull)
				r.v.Drop()
				if n > 0 {
					r.write(t, 0, page('w'))
					r.commit(t)
					want(t, "Commit", r.tr.Commit, tr.Commit+1)
				}
			})
		}
	}
}

// TestPermanentError: after ErrTampered of Read, and after ErrCrash, Read, Write and Commit return it, and do nothing else.
func TestPermanentError(t *testing.T) {
	for name, s := range suites() {
		for _, how := range []api.Errno{api.ErrTampered, api.ErrCrash} {
			t.Run(fmt.Sprint(name, how), func(t *testing.T) {
				r := newRig(t, s.Clone(), 20, 12, 8)
				r.write(t, 3, page('a'))
				r.commit(t)
				r.write(t, 5, page('b'))
				good := r.d.Stable()[r.pageAt(3)]
				if how == api.ErrTampered {
					r.d.Over(r.pageAt(3), "!!!!"+good[4:])
				} else {
					r.d.Arm(0, 0)
					r.d.Flush()
				}
				wantPage(t, r.v, 5, page('b')) // they are not on the disk, so that this is not noticed
				wantPage(t, r.v, 6, page(0))
				want(t, "Err", r.v.Err(), api.OK)
				wantNoPage(t, r.v, 3, how)
				r.d.Over(r.pageAt(3), good)
				r.d.Start()
				drawn, steps, tr := r.s.Drawn(), r.d.Steps(), *r.tr
				for _, p := range []int{3, 5, 6, -1, 20} {
					wantNoPage(t, r.v, p, how)
					want(t, "Write", r.v.Write(p, page('c')), how)
					want(t, "Write", r.v.Write(p, ""), how)
				}
				want(t, "Commit", r.v.Commit(), how)
				want(t, "Err", r.v.Err(), how)
				want(t, "Dirty", fmt.Sprint(r.v.Dirty()), "[5]")
				r.v.Drop()
				want(t, "Dirty", len(r.v.Dirty()), 0)
				want(t, "Commit", r.v.Commit(), how)
				want(t, "Err", r.v.Err(), how)
				want(t, "Room", r.v.Room(), 7)
				want(t, "Pages", r.v.Pages(), 20)
				if r.s.Drawn() != drawn || r.d.Steps() != steps || *r.tr != tr {
					t.Error("something has changed")
				}
				r.open(t)
				wantPage(t, r.v, 3, page('a'))
				wantPage(t, r.v, 5, page(0))
			})
		}
	}
}

// TestFullIsNotPermanent: also not the errors of arguments.
func TestFullIsNotPermanent(t *testing.T) {
	r := newRig(t, suite.Real("key"), 20, 5, 8)
	r.write(t, 3, page('a'))
	want(t, "Commit", r.v.Commit(), api.ErrFull)
	want(t, "Write", r.v.Write(-1, page('a')), api.ErrArg)
	wantNoPage(t, r.v, 20, api.ErrArg)
	want(t, "Err", r.v.Err(), api.OK)
	wantPage(t, r.v, 3, page('a'))
}

// TestDirtyIsNew: rule 5, what Dirty returns is nobody else's.
func TestDirtyIsNew(t *testing.T) {
	r := newRig(t, suite.Real("key"), 20, 12, 8)
	r.write(t, 3, page('a'))
	r.write(t, 4, page('b'))
	l := r.v.Dirty()
	l[0], l[1] = 9, 9
	want(t, "Dirty", fmt.Sprint(r.v.Dirty()), "[3 4]")
	r.commit(t)
	wantPage(t, r.v, 3, page('a'))
}

// TestOtherKey: a vault of another suite, or of another Config, is not opened.
func TestOtherKey(t *testing.T) {
	for _, s := range []*suite.Suite{suite.Real("kez"), suite.Ideal("key"), suite.Ideal(tape(9973))} {
		r := newRig(t, suite.Real("key"), 20, 12, 8)
		r.write(t, 3, page('a'))
		r.commit(t)
		r.s = s
		wantNoOpen(t, "another suite", r, api.ErrTampered)
	}
	for _, c := range []vault.Config{{Pages: 20, Journal: 11}, {Pages: 16, Journal: 12}, {Pages: 1, Journal: 3}} {
		r := newRig(t, suite.Real("key"), 20, 12, 8)
		r.write(t, 18, page('a'))
		r.commit(t)
		r.c = c
		wantNoOpen(t, fmt.Sprint(c), r, api.ErrTampered)
	}
}

// TestLargerDisk: pages of the disk that no part is on are never written.
func TestLargerDisk(t *testing.T) {
	r := newRig(t, suite.Real("key"), 20, 12, 8)
	r.d = disk.New(r.c.Disk()+5, 8)
	for i := range 5 {
		r.d.Over(r.c.Disk()+i, padded("mine"))
	}
	r.format(t)
	for p := range 7 {
		r.write(t, 19-p, page('a'))
	}
	r.commit(t)
	r.open(t)
	for i, s := range r.d.Stable()[r.c.Disk():] {
		want(t, fmt.Sprint("page ", i), s, padded("mine"))
	}
}
