package shelf_test

import (
	"encoding/binary"
	"fmt"
	"slices"
	"strings"
	"testing"

	"sealwax/alloc"
	"sealwax/api"
	"sealwax/disk"
	"sealwax/shelf"
	"sealwax/suite"
	"sealwax/vault"
)

type span = alloc.Span

func at(first, count int) span { return span{First: first, Count: count} }

// text returns n bytes of its own for each number.
func text(i, n int) string {
	out := make([]byte, n)
	for k := range out {
		out[k] = byte(i*31 + k*7 + k/256)
	}
	return string(out)
}

func zeros(n int) string { return strings.Repeat("\x00", n) }

func number(n int) string { return string(binary.BigEndian.AppendUint64(nil, uint64(n))) }

func want[T comparable](t *testing.T, what string, got, wanted T) {
	t.Helper()
	if got != wanted {
		t.Errorf("%s: got %v, want %v", what, got, wanted)
	}
}

// rig is a shelf with all that its vault uses.
type rig struct {
	d  *disk.Disk
	s  *suite.Suite
	tr *vault.Trusted
	c  vault.Config
	*shelf.Shelf
}

// newRig returns a shelf of a formatted vault.
func newRig(t *testing.T, pages, size int) *rig {
	t.Helper()
	r := &rig{s: suite.Ideal("a tape"), tr: &vault.Trusted{}, c: vault.Config{Pages: pages, Journal: size}}
	r.d = disk.New(r.c.Disk(), 40)
	v, e := vault.Format(r.d, r.s, r.tr, r.c)
	if e != api.OK {
		t.Fatalf("Format: error %d", e)
	}
	r.shelve(t, v)
	return r
}

func (r *rig) shelve(t *testing.T, v *vault.Vault, taken ...span) {
	t.Helper()
	s, ok := shelf.New(v, taken...)
	if !ok || s == nil {
		t.Fatalf("New: %v of %v", ok, taken)
	}
	r.Shelf = s
}

// open opens the vault anew, for a shelf with these texts.
func (r *rig) open(t *testing.T, taken ...span) {
	t.Helper()
	v, e := vault.Open(r.d, r.s, r.tr, r.c)
	if e != api.OK {
		t.Fatalf("Open: error %d", e)
	}
	r.shelve(t, v, taken...)
}

// tamper changes page p of the vault, and makes the vault notice it.
func (r *rig) tamper(t *testing.T, p int) {
	t.Helper()
	r.d.Over(r.c.Disk()-r.c.Pages+p, strings.Repeat("!", 256))
	_, e := r.Vault().Read(p)
	want(t, "Read", e, api.ErrTampered)
}

func (r *rig) wantPut(t *testing.T, text string, wanted span) {
	t.Helper()
	if x, e := r.Put(text); x != wanted || e != api.OK {
		t.Errorf("Put of %d bytes: got %v, error %d, want %v", len(text), x, e, wanted)
	}
}

func (r *rig) wantNoPut(t *testing.T, n int, wanted api.Errno) {
	t.Helper()
	before := r.told()
	if x, e := r.Put(zeros(n)); x != (span{}) || e != wanted {
		t.Errorf("Put of %d bytes: got %v, error %d, want error %d", n, x, e, wanted)
	}
	want(t, "after no Put", r.told(), before)
}

func (r *rig) wantGet(t *testing.T, x span, wanted string) {
	t.Helper()
	if s, e := r.Get(x); s != wanted || e != api.OK {
		t.Errorf("Get of %v: got %.12q, %d bytes, error %d, want %.12q, %d bytes", x, s, len(s), e, wanted, len(wanted))
	}
}

func (r *rig) wantNoGet(t *testing.T, x span, wanted api.Errno) {
	t.Helper()
	if s, e := r.Get(x); s != "" || e != wanted {
		t.Errorf("Get of %v: got %.12q, error %d, want error %d", x, s, e, wanted)
	}
}

func (r *rig) wantDrop(t *testing.T, x span, wanted api.Errno) {
	t.Helper()
	before := r.told()
	want(t, fmt.Sprint("Drop of ", x), r.Drop(x), wanted)
	want(t, "after Drop", r.told(), before)
}

func (r *rig) wantRoot(t *testing.T, wanted string) {
	t.Helper()
	if s, e := r.Root(); s != wanted || e != api.OK {
		t.Errorf("Root: got %.12q, error %d, want %.12q", s, e, wanted)
	}
}

func (r *rig) commit(t *testing.T) {
	t.Helper()
	want(t, "Commit", r.Commit(), api.OK)
}

// told returns what the shelf tells of its pages.
func (r *rig) told() string { return fmt.Sprint(r.Free(), r.Taken(), r.Vault().Dirty()) }

func (r *rig) wantTold(t *testing.T, free int, taken ...span) {
	t.Helper()
	want(t, "Free", r.Free(), free)
	if got := r.Taken(); !slices.Equal(got, taken) {
		t.Errorf("Taken: got %v, want %v", got, taken)
	}
}

// strange are Spans that no vault of 12 pages has.
func strange() []span {
	const least, most = -1 << 63, 1<<63 - 1
	var out []span
	for _, n := range []int{least, least + 1, -1 << 40, -12, -1, 12, 13, 1 << 32, 1 << 40, most - 1, most} {
		for _, k := range []int{least, -1, 0, 1, 2, 11, 12, 13, 1 << 40, most} {
			out = append(out, at(n, k))
		}
	}
	for _, n := range []int{0, 1, 4, 11} {
		for _, k := range []int{least, least + 1, -2, -1, 0, 13, 14, 1 << 32, most - 1, most} {
			out = append(out, at(n, k))
		}
	}
	return out
}

// TestExample: example 1 of the chapter.
func TestExample(t *testing.T) {
	r := newRig(t, 12, 20)
	r.wantPut(t, text(1, 300), at(1, 2))
	r.wantPut(t, text(2, 10), at(3, 1))
	r.wantGet(t, at(1, 2), text(1, 300))
	r.wantGet(t, at(3, 1), text(2, 10))
}

// TestNew: the page of the root and all of taken are allocated, all others are free.
func TestNew(t *testing.T) {
	r := newRig(t, 12, 20)
	v := r.Vault()
	r.wantTold(t, 11, at(0, 1))
	r.shelve(t, v, at(3, 2), at(7, 1))
	r.wantTold(t, 8, at(0, 1), at(3, 2), at(7, 1))
	r.shelve(t, v, at(7, 5), at(1, 6))
	r.wantTold(t, 0, at(0, 12))
	want(t, "Vault", r.Vault(), v)
	r.shelve(t, v, []span{}...)
	r.wantTold(t, 11, at(0, 1))
	refused := [][]span{{at(0, 1)}, {at(0, 2)}, {at(3, 2), at(4, 1)}, {at(3, 1), at(3, 1)}, {at(4, 1), at(3, 2)}, {at(3, 0)}, {at(2, 2), at(9, 1), at(11, 2)}, {at(12, 1)}}
	for _, x := range strange() {
		refused = append(refused, []span{x}, []span{at(5, 2), x}, []span{x, at(5, 2)})
	}
	for _, l := range refused {
		before := slices.Clone(l)
		if s, ok := shelf.New(v, l...); s != nil || ok {
			t.Errorf("%v: got %v, %v", l, s != nil, ok)
		}
		want(t, "the list", slices.Equal(l, before), true)
	}
	want(t, "Dirty", len(v.Dirty()), 0)
}

// TestOnePage: a vault with the page of the root alone.
func TestOnePage(t *testing.T) {
	r := newRig(t, 1, 9)
	r.wantTold(t, 0, at(0, 1))
	r.wantNoPut(t, 0, api.ErrFull)
	r.wantNoPut(t, 7673, api.ErrBig)
	want(t, "SetRoot", r.SetRoot("root"), api.OK)
	r.commit(t)
	r.open(t)
	r.wantRoot(t, "root")
}

// TestSizes: P14.2, texts of all sizes at which the number of pages changes.
func TestSizes(t *testing.T) {
	r := newRig(t, 100, 90)
	for _, x := range []struct{ n, pages int }{{0, 1}, {1, 1}, {232, 1}, {233, 2}, {472, 2}, {473, 4}, {952, 4}, {953, 8}, {1912, 8}, {1913, 16}, {3832, 16}, {3833, 32}, {7672, 32}} {
		r.wantPut(t, text(x.n, x.n), at(1, x.pages))
		r.wantGet(t, at(1, x.pages), text(x.n, x.n))
		r.commit(t)
		r.open(t, at(1, x.pages))
		r.wantGet(t, at(1, x.pages), text(x.n, x.n))
		r.wantDrop(t, at(1, x.pages), api.OK)
		r.commit(t)
		r.wantTold(t, 99, at(0, 1))
	}
	for _, n := range []int{7673, 10000, 1 << 20} {
		r.wantNoPut(t, n, api.ErrBig)
	}
}

// TestPages: what is put is written as layer 12 says, on exactly these pages.
func TestPages(t *testing.T) {
	r := newRig(t, 12, 20)
	r.wantPut(t, text(1, 5), at(1, 1))
	r.wantPut(t, text(2, 500), at(2, 4))
	want(t, "Dirty", fmt.Sprint(r.Vault().Dirty()), "[1 2 3 4 5]")
	all := number(500) + text(2, 500) + zeros(960-508)
	for i := range 4 {
		data, e := r.Vault().Read(2 + i)
		want(t, "Read", e, api.OK)
		want(t, fmt.Sprint("page ", 2+i), data, all[240*i:240*i+240])
	}
	want(t, "steps", r.d.Steps(), 4) // of Format alone
}

// TestFull: ErrFull if no consecutive pages are free, though pages are; ErrBig comes first.
func TestFull(t *testing.T) {
	r := newRig(t, 12, 20)
	for i := range 11 {
		r.wantPut(t, text(i, 9), at(1+i, 1))
	}
	r.wantTold(t, 0, at(0, 12))
	r.wantNoPut(t, 0, api.ErrFull)
	r.wantNoPut(t, 7672, api.ErrFull)
	r.wantNoPut(t, 7673, api.ErrBig)
	r.commit(t)
	for i := 1; i < 12; i += 2 {
		r.wantDrop(t, at(i, 1), api.OK)
	}
	r.wantNoPut(t, 0, api.ErrFull)
	r.commit(t)
	r.wantTold(t, 6, at(0, 1), at(2, 1), at(4, 1), at(6, 1), at(8, 1), at(10, 1))
	r.wantNoPut(t, 233, api.ErrFull)
	r.wantPut(t, text(5, 232), at(1, 1))
}

// TestGet: each error, also of pages that are a part of a text, or more than one.
func TestGet(t *testing.T) {
	r := newRig(t, 12, 20)
	r.wantPut(t, text(1, 300), at(1, 2))
	r.wantPut(t, text(2, 10), at(3, 1))
	r.wantPut(t, text(3, 900), at(4, 4))
	for range 2 {
		for _, x := range strange() {
			r.wantNoGet(t, x, api.ErrNone)
		}
		for _, x := range []span{at(8, 1), at(3, 6), at(7, 2), at(11, 1), at(1, 8), at(0, 9)} {
			r.wantNoGet(t, x, api.ErrNone)
		}
		for _, x := range []span{at(1, 1), at(2, 1), at(1, 3), at(2, 2), at(3, 2), at(4, 1), at(4, 2), at(4, 3), at(5, 2), at(1, 7), at(0, 2), at(0, 8), at(0, 4)} {
			r.wantNoGet(t, x, api.ErrForm)
		}
		r.wantGet(t, at(0, 1), "")
		r.wantGet(t, at(1, 2), text(1, 300))
		r.wantGet(t, at(4, 4), text(3, 900))
		want(t, "Err", r.Vault().Err(), api.OK)
		r.commit(t)
	}
	r.wantDrop(t, at(4, 4), api.OK)
	r.wantGet(t, at(4, 4), text(3, 900)) // it is there until the Commit
	r.commit(t)
	r.wantNoGet(t, at(4, 4), api.ErrNone)
	r.wantNoGet(t, at(3, 2), api.ErrNone)
	r.shelve(t, r.Vault(), at(2, 1), at(4, 1), at(6, 2))
	for _, x := range []span{at(2, 3), at(4, 3), at(2, 6), at(0, 3)} { // with a gap inside
		r.wantNoGet(t, x, api.ErrNone)
		r.wantDrop(t, x, api.ErrNone)
	}
}

// TestGetOfZeros: allocated pages that were never written have an empty text, if it is one page.
func TestGetOfZeros(t *testing.T) {
	r := newRig(t, 12, 20)
	r.shelve(t, r.Vault(), at(2, 3))
	r.wantGet(t, at(3, 1), "")
	r.wantNoGet(t, at(2, 2), api.ErrForm)
	r.wantNoGet(t, at(1, 2), api.ErrNone)
}

// TestDrop: pages are free from the next Commit on, and each error.
func TestDrop(t *testing.T) {
	r := newRig(t, 12, 20)
	r.wantPut(t, text(1, 300), at(1, 2))
	r.wantPut(t, text(2, 10), at(3, 1))
	r.wantPut(t, text(3, 900), at(4, 4))
	r.commit(t)
	for _, x := range append(strange(), at(0, 1), at(0, 2), at(0, 8), at(0, 12), at(8, 1), at(7, 2), at(11, 1), at(3, 0), at(3, -1)) {
		r.wantDrop(t, x, api.ErrNone)
	}
	r.wantDrop(t, at(2, 2), api.OK) // parts of two texts
	for _, x := range []span{at(2, 2), at(2, 1), at(3, 1), at(1, 2), at(3, 2), at(1, 7), at(0, 1), at(8, 1)} {
		r.wantDrop(t, x, api.ErrNone)
	}
	r.wantDrop(t, at(4, 4), api.OK)
	r.wantTold(t, 4, at(0, 8))
	r.wantPut(t, text(4, 20), at(8, 1))
	r.wantPut(t, text(5, 20), at(9, 1))
	r.wantDrop(t, at(8, 1), api.OK) // never committed
	r.wantDrop(t, at(8, 1), api.ErrNone)
	r.wantPut(t, text(6, 20), at(10, 1))
	r.wantTold(t, 1, at(0, 11))
	r.commit(t)
	r.wantTold(t, 8, at(0, 2), at(9, 2))
	r.wantDrop(t, at(2, 2), api.ErrNone)
	r.wantDrop(t, at(8, 1), api.ErrNone)
	r.wantPut(t, text(7, 500), at(2, 4))
	r.wantGet(t, at(9, 1), text(5, 20))
	r.wantDrop(t, at(1, 1), api.OK)
	r.commit(t)
	r.wantTold(t, 5, at(0, 1), at(2, 4), at(9, 2))
}

// TestRoot: what it has at first, how long it may be, and from when on it is there.
func TestRoot(t *testing.T) {
	r := newRig(t, 12, 20)
	r.wantRoot(t, "")
	for _, n := range []int{0, 1, 231, 232} {
		want(t, "SetRoot", r.SetRoot(text(n, n)), api.OK)
		r.wantRoot(t, text(n, n))
	}
	for _, n := range []int{233, 240, 472, 473, 7672, 7673, 1 << 20} {
		want(t, fmt.Sprint("SetRoot of ", n), r.SetRoot(zeros(n)), api.ErrBig)
		r.wantRoot(t, text(232, 232))
	}
	r.wantTold(t, 11, at(0, 1))
	want(t, "Dirty", fmt.Sprint(r.Vault().Dirty()), "[0]")
	r.Abort()
	r.wantRoot(t, "")
	want(t, "SetRoot", r.SetRoot("root"), api.OK)
	r.open(t)
	r.wantRoot(t, "")
	want(t, "SetRoot", r.SetRoot("root"), api.OK)
	r.commit(t)
	want(t, "SetRoot", r.SetRoot("other"), api.OK)
	r.wantRoot(t, "other")
	r.open(t)
	r.wantRoot(t, "root")
	want(t, "SetRoot", r.SetRoot(""), api.OK)
	r.commit(t)
	r.wantRoot(t, "")
	// what is no text
	for _, data := range []string{number(233) + zeros(232), number(3) + "root" + zeros(228), strings.Repeat("\xff", 240)} {
		want(t, "Write", r.Vault().Write(0, data), api.OK)
		s, e := r.Root()
		want(t, "Root", s, "")
		want(t, "Root", e, api.ErrForm)
	}
}

// TestAbort: nothing that was put or dropped since the last Commit is, and so again.
func TestAbort(t *testing.T) {
	r := newRig(t, 12, 20)
	r.Abort()
	r.wantTold(t, 11, at(0, 1))
	for range 2 {
		r.wantPut(t, text(1, 300), at(1, 2))
		r.wantPut(t, text(2, 10), at(3, 1))
		r.wantDrop(t, at(1, 2), api.OK)
		r.Abort()
		r.wantTold(t, 11, at(0, 1))
		r.wantNoGet(t, at(3, 1), api.ErrNone)
		want(t, "Dirty", len(r.Vault().Dirty()), 0)
	}
	r.wantPut(t, text(1, 300), at(1, 2))
	r.wantPut(t, text(2, 10), at(3, 1))
	r.commit(t)
	for range 2 {
		r.wantDrop(t, at(1, 2), api.OK)
		r.wantPut(t, text(3, 10), at(4, 1))
		want(t, "SetRoot", r.SetRoot("root"), api.OK)
		r.Abort()
		r.wantTold(t, 8, at(0, 4))
		r.wantGet(t, at(1, 2), text(1, 300))
		r.wantGet(t, at(3, 1), text(2, 10))
		r.wantNoGet(t, at(4, 1), api.ErrNone)
		r.wantRoot(t, "")
	}
	r.commit(t)
	r.wantTold(t, 8, at(0, 4))
	r.wantDrop(t, at(1, 2), api.OK)
	r.commit(t)
	r.Abort()
	r.wantTold(t, 10, at(0, 1), at(3, 1))
	r.open(t, at(3, 1), at(5, 2))
	r.wantDrop(t, at(5, 2), api.OK)
	r.wantPut(t, text(4, 10), at(1, 1))
	r.Abort()
	r.wantTold(t, 8, at(0, 1), at(3, 1), at(5, 2))
}

// TestCommitOfNothing: what was dropped becomes free, though nothing was written.
func TestCommitOfNothing(t *testing.T) {
	r := newRig(t, 12, 20)
	r.shelve(t, r.Vault(), at(5, 3))
	r.wantDrop(t, at(5, 2), api.OK)
	steps := r.d.Steps()
	r.commit(t)
	r.wantTold(t, 10, at(0, 1), at(7, 1))
	want(t, "steps", r.d.Steps(), steps)
}

// TestCommitFails: nothing has changed, and it can be done again or aborted.
func TestCommitFails(t *testing.T) {
	r := newRig(t, 12, 7) // room for 3
	r.shelve(t, r.Vault(), at(9, 3))
	r.wantPut(t, text(1, 500), at(1, 4))
	r.wantDrop(t, at(10, 1), api.OK)
	before := r.told()
	for range 2 {
		want(t, "Commit", r.Commit(), api.ErrFull)
		want(t, "after it", r.told(), before)
		r.wantDrop(t, at(10, 1), api.ErrNone)
		r.wantGet(t, at(1, 4), text(1, 500))
	}
	r.Abort()
	r.wantTold(t, 8, at(0, 1), at(9, 3))
	r.wantPut(t, text(2, 300), at(1, 2))
	r.commit(t)
	r.wantPut(t, text(3, 9), at(3, 1))
	r.wantDrop(t, at(1, 2), api.OK)
	before = r.told()
	r.d.Arm(3, 0)
	want(t, "Commit", r.Commit(), api.ErrCrash)
	want(t, "after it", r.told(), before)
	want(t, "Commit", r.Commit(), api.ErrCrash)
	r.Abort()
	r.wantTold(t, 6, at(0, 3), at(9, 3))
	r.d.Start()
	r.open(t, at(1, 2))
	r.wantGet(t, at(1, 2), text(2, 300))
}

// TestPermanentError: that of the vault comes after the errors of the shelf, and nothing is allocated.
func TestPermanentError(t *testing.T) {
	r := newRig(t, 12, 20)
	r.wantPut(t, text(1, 300), at(1, 2))
	r.commit(t)
	r.wantPut(t, text(2, 9), at(3, 1))
	r.tamper(t, 2)
	r.wantTold(t, 8, at(0, 4))
	r.wantNoPut(t, 7673, api.ErrBig)
	r.wantNoPut(t, 7672, api.ErrFull)
	r.wantNoPut(t, 2000, api.ErrFull)
	r.wantNoPut(t, 1900, api.ErrTampered)
	r.wantNoPut(t, 0, api.ErrTampered)
	r.wantNoGet(t, at(4, 1), api.ErrNone)
	r.wantNoGet(t, at(3, 0), api.ErrNone)
	r.wantNoGet(t, at(3, 1), api.ErrTampered)
	r.wantNoGet(t, at(1, 1), api.ErrTampered)
	want(t, "SetRoot", r.SetRoot(zeros(233)), api.ErrBig)
	want(t, "SetRoot", r.SetRoot("root"), api.ErrTampered)
	s, e := r.Root()
	want(t, "Root", s, "")
	want(t, "Root", e, api.ErrTampered)
	r.wantDrop(t, at(1, 2), api.OK) // this is nothing of the vault
	r.wantDrop(t, at(1, 2), api.ErrNone)
	want(t, "Commit", r.Commit(), api.ErrTampered)
	r.wantTold(t, 8, at(0, 4))
	r.Abort()
	r.wantTold(t, 9, at(0, 3))
	want(t, "Dirty", len(r.Vault().Dirty()), 0)
	want(t, "Commit", r.Commit(), api.ErrTampered)
	r.wantDrop(t, at(1, 2), api.OK)
}

// TestTampered: each page of a text, and that of the root, is noticed when it is read.
func TestTampered(t *testing.T) {
	for p := range 5 {
		r := newRig(t, 12, 20)
		r.wantPut(t, text(1, 900), at(1, 4))
		want(t, "SetRoot", r.SetRoot("root"), api.OK)
		r.commit(t)
		r.d.Over(r.c.Disk()-12+p, strings.Repeat("!", 256))
		if p == 0 {
			r.wantGet(t, at(1, 4), text(1, 900))
			s, e := r.Root()
			want(t, "Root", s, "")
			want(t, "Root", e, api.ErrTampered)
		} else {
			r.wantRoot(t, "root")
			r.wantNoGet(t, at(1, 4), api.ErrTampered)
		}
		want(t, "Err", r.Vault().Err(), api.ErrTampered)
	}
	// it comes before ErrForm
	r := newRig(t, 12, 20)
	r.wantPut(t, text(1, 900), at(1, 4))
	r.commit(t)
	r.wantNoGet(t, at(1, 3), api.ErrForm)
	r.d.Over(r.c.Disk()-12+3, strings.Repeat("!", 256))
	r.wantNoGet(t, at(1, 2), api.ErrForm)
	r.wantNoGet(t, at(1, 3), api.ErrTampered)
}

// TestTakenIsNew: rule 5, what Taken returns is nobody else's, and what New is passed is not kept.
func TestTakenIsNew(t *testing.T) {
	r := newRig(t, 12, 20)
	l := []span{at(3, 2), at(7, 1)}
	r.shelve(t, r.Vault(), l...)
	l[0], l[1] = at(1, 1), at(1, 1)
	got := r.Taken()
	got[0], got[1] = at(9, 9), at(9, 9)
	r.wantTold(t, 8, at(0, 1), at(3, 2), at(7, 1))
	r.Abort()
	r.wantTold(t, 8, at(0, 1), at(3, 2), at(7, 1))
}
