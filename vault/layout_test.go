package vault_test

import (
	"fmt"
	"math/rand"
	"slices"
	"strings"
	"testing"

	"sealwax/api"
	"sealwax/disk"
	"sealwax/journal"
	"sealwax/suite"
	"sealwax/vault"
)

// plain is what a vault writes, written apart from the program: it makes each page of the disk by hand, and lets the suite and the journal do their part.
type plain struct {
	c            vault.Config
	s            *suite.Suite
	boot, seq, n int
	leaves       []string // one for each page
}

func newPlain(c vault.Config, s *suite.Suite) *plain {
	p := &plain{c: c, s: s}
	p.next()
	p.clear()
	return p
}

func (p *plain) next() { p.boot, p.seq, p.n = p.boot+1, 0, 0 }

func (p *plain) clear() {
	p.leaves = nil
	for range p.c.Pages {
		p.leaves = append(p.leaves, zeros(16))
	}
}

func (p *plain) leafPages() []string {
	all := strings.Join(p.leaves, "")
	for len(all)%256 != 0 {
		all += "\x00"
	}
	var out []string
	for ; all != ""; all = all[256:] {
		out = append(out, all[:256])
	}
	return out
}

func (p *plain) header() string {
	title := "SWHD" + number(p.boot<<20+p.n)
	sum := p.s.Mac(title + strings.Join(p.leafPages(), ""))
	return padded(title + string(sum[:]))
}

// formatted returns the steps of Format.
func (p *plain) formatted() []disk.Op {
	out := []disk.Op{{Kind: disk.Write, Page: 1, Data: zeros(256)}}
	for i, s := range p.leafPages() {
		out = append(out, disk.Op{Kind: disk.Write, Page: 1 + p.c.Journal + i, Data: s})
	}
	return append(out, disk.Op{Kind: disk.Write, Page: 0, Data: p.header()}, disk.Op{Kind: disk.Flush})
}

// committed returns the journal of a commit.
func (p *plain) committed(writes map[int]string) []journal.Page {
	p.n++
	var out []journal.Page
	firstPage := 1 + p.c.Journal + len(p.leafPages())
	touched := map[int]bool{}
	for at := range p.c.Pages {
		if data, ok := writes[at]; ok {
			sealed := p.s.Seal(suite.At{Boot: p.boot, Seq: p.seq}, number(at), data)
			out = append(out, journal.Page{At: firstPage + at, Data: sealed})
			p.leaves[at] = number(p.boot) + number(p.seq)
			touched[at/16] = true
			p.seq++
		}
	}
	for i, s := range p.leafPages() {
		if touched[i] {
			out = append(out, journal.Page{At: 1 + p.c.Journal + i, Data: s})
		}
	}
	return append(out, journal.Page{At: 0, Data: p.header()})
}

// replaySteps returns the steps of a journal that is prepared and replayed.
func replaySteps(t *testing.T, d *disk.Disk, c vault.Config, l []journal.Page) []disk.Op {
	t.Helper()
	d = d.Clone()
	before := d.Steps()
	want(t, "Prepare", journal.Prepare(d, 1, c.Journal, l...), api.OK)
	n, e := journal.Replay(d, 1, c.Journal)
	want(t, "Replay", n, len(l))
	want(t, "Replay", e, api.OK)
	return d.View()[before:]
}

// wantSteps checks the steps of the disk after the first ones.
func wantSteps(t *testing.T, what string, d *disk.Disk, first int, wanted []disk.Op) {
	t.Helper()
	got := d.View()[first:]
	want(t, what+": number of steps", len(got), len(wanted))
	for i := range min(len(got), len(wanted)) {
		if got[i] != wanted[i] {
			t.Fatalf("%s: step %d: got %d, page %d, %.40q, want %d, page %d, %.40q", what, i, got[i].Kind, got[i].Page, got[i].Data, wanted[i].Kind, wanted[i].Page, wanted[i].Data)
		}
	}
}

// TestEveryStep: what Format, Commit and Open write, step by step, and in which order they take the tape.
func TestEveryStep(t *testing.T) {
	r := rand.New(rand.NewSource(13))
	for name, s := range suites() {
		for _, c := range []vault.Config{{Pages: 1, Journal: 5}, {Pages: 16, Journal: 30}, {Pages: 17, Journal: 30}, {Pages: 40, Journal: 50}, {Pages: 100, Journal: 120}} {
			t.Run(fmt.Sprint(name, c), func(t *testing.T) {
				x := &rig{s: s.Clone(), tr: &vault.Trusted{}, c: c}
				x.d = disk.New(c.Disk(), 30)
				for i := range x.d.Pages() {
					x.d.Over(i, padded(fmt.Sprint("old ", i)))
				}
				p := newPlain(c, s.Clone())
				x.format(t)
				wantSteps(t, "Format", x.d, 0, p.formatted())
				for range 12 {
					writes := map[int]string{}
					for range 1 + r.Intn(x.v.Room()) {
						writes[r.Intn(c.Pages)] = numbered(r.Intn(1000))
					}
					for at, data := range writes {
						x.write(t, at, page('q'))
						x.write(t, at, data)
					}
					steps := replaySteps(t, x.d, c, p.committed(writes))
					first := x.d.Steps()
					x.commit(t)
					wantSteps(t, "Commit", x.d, first, steps)
					want(t, "Drawn", x.s.Drawn(), p.s.Drawn())
					if r.Intn(3) == 0 {
						first = x.d.Steps()
						x.open(t)
						p.next()
						wantSteps(t, "Open", x.d, first, nil)
						want(t, "Drawn", x.s.Drawn(), p.s.Drawn())
					}
					for at, data := range writes {
						wantPage(t, x.v, at, data)
					}
				}
				first := x.d.Steps()
				x.format(t)
				p.next()
				p.clear()
				wantSteps(t, "Format", x.d, first, p.formatted())
				want(t, "Drawn", x.s.Drawn(), p.s.Drawn())
			})
		}
	}
}

// TestMacOfFormat: the Mac is requested only for the header, after everything else was written.
func TestMacOfFormat(t *testing.T) {
	c := vault.Config{Pages: 40, Journal: 9}
	for step := range 8 {
		s, tr := suite.Ideal(tape(9973)), &vault.Trusted{Boot: 4, Commit: 77}
		d := disk.New(c.Disk(), 2)
		d.Arm(step, 0)
		v, e := vault.Format(d, s, tr, c)
		if step < 6 {
			want(t, fmt.Sprint("step ", step), e, api.ErrCrash)
			want(t, "Trusted", *tr, vault.Trusted{Boot: 5, Commit: 77})
		} else {
			want(t, fmt.Sprint("step ", step), e, api.OK)
			want(t, "Trusted", *tr, vault.Trusted{Boot: 5, Commit: 5 << 20})
		}
		want(t, "a vault", v != nil, step >= 6)
		want(t, fmt.Sprint("step ", step, ": Drawn"), s.Drawn(), map[bool]int{false: 0, true: 24}[step >= 4])
	}
}

// TestCrashedDisk: Format and Open return its error, but Boot is incremented.
func TestCrashedDisk(t *testing.T) {
	r := newRig(t, suite.Ideal("tape"), 20, 12, 8)
	r.d.Arm(0, 0)
	r.d.Flush()
	drawn := r.s.Drawn()
	v, e := vault.Format(r.d, r.s, r.tr, r.c)
	want(t, "a vault", v != nil, false)
	want(t, "Format", e, api.ErrCrash)
	want(t, "Trusted", *r.tr, vault.Trusted{Boot: 2, Commit: 1 << 20})
	wantNoOpen(t, "crashed", r, api.ErrCrash)
	want(t, "Drawn", r.s.Drawn(), drawn)
	r.d.Start()
	r.open(t)
}

// TestCommitAfterCrash: a crash at the first step of a commit comes after everything was sealed, and nothing is written or numbered.
func TestCommitAfterCrash(t *testing.T) {
	r := newRig(t, suite.Ideal(tape(9973)), 20, 12, 8)
	r.write(t, 3, page('a'))
	r.write(t, 18, page('b'))
	drawn, steps, tr := r.s.Drawn(), r.d.Steps(), *r.tr
	r.d.Arm(0, 0)
	want(t, "Commit", r.v.Commit(), api.ErrCrash)
	want(t, "Drawn", r.s.Drawn(), drawn+2*256+24)
	want(t, "steps", r.d.Steps(), steps)
	want(t, "Trusted", *r.tr, tr)
	want(t, "Err", r.v.Err(), api.ErrCrash)
	want(t, "Dirty", fmt.Sprint(r.v.Dirty()), "[3 18]")
	want(t, "Commit", r.v.Commit(), api.ErrCrash)
	want(t, "Drawn", r.s.Drawn(), drawn+2*256+24)
}

// TestReadsNothingElse: neither Read nor Write is a step, and neither takes bytes of the tape.
func TestReadsNothingElse(t *testing.T) {
	r := newRig(t, suite.Ideal(tape(9973)), 20, 12, 8)
	r.write(t, 3, page('a'))
	r.commit(t)
	drawn, steps, stable := r.s.Drawn(), r.d.Steps(), r.d.Stable()
	r.d.Arm(0, 0)
	for p := range 20 {
		r.v.Read(p)
		r.write(t, p, page('b'))
		r.v.Read(p)
	}
	r.v.Drop()
	r.open(t)
	if r.s.Drawn() != drawn || r.d.Steps() != steps || !slices.Equal(r.d.Stable(), stable) {
		t.Error("something has changed")
	}
}
