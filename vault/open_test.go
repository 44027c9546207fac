package vault_test

import (
	"fmt"
	"slices"
	"strings"
	"testing"

	"sealwax/api"
	"sealwax/disk"
	"sealwax/journal"
	"sealwax/suite"
	"sealwax/vault"
)

// twoCommits returns a vault with pages of two commits.
func twoCommits(t *testing.T, s *suite.Suite) *rig {
	t.Helper()
	r := newRig(t, s, 20, 12, 8)
	r.write(t, 3, page('a'))
	r.write(t, 4, page('b'))
	r.commit(t)
	r.write(t, 4, page('c'))
	r.write(t, 18, page('d'))
	r.commit(t)
	return r
}

func wantTwoCommits(t *testing.T, v *vault.Vault) {
	t.Helper()
	for p := range 20 {
		wantPage(t, v, p, page(map[int]byte{3: 'a', 4: 'c', 18: 'd'}[p]))
	}
}

// signedBy returns a header that belongs to these pages of leaves.
func signedBy(s *suite.Suite, title string, leaves ...string) string {
	sum := s.Mac(title + strings.Join(leaves, ""))
	return padded(title + string(sum[:]))
}

// TestEveryBit: P13.4, a changed bit of the header or of a page of leaves is found by Open, one of a page by Read, and one of the journal has no effect.
func TestEveryBit(t *testing.T) {
	for name, s := range suites() {
		t.Run(name, func(t *testing.T) {
			r := twoCommits(t, s)
			stable := r.d.Stable()
			for p, data := range stable {
				for bit := range 256 * 8 {
					if bit%8 != bit/8%8 && p != 0 { // one of each byte, but all of the header
						continue
					}
					bytes := []byte(data)
					bytes[bit/8] ^= 1 << (bit % 8)
					r.d.Over(p, string(bytes))
					what := fmt.Sprintf("page %d, bit %d", p, bit)
					v, e := vault.Open(r.d, r.s, r.tr, r.c)
					if p == 0 || p > 12 && p < 15 {
						if v != nil || e != api.ErrTampered {
							t.Fatalf("%s: Open: %v, error %d", what, v != nil, e)
						}
					} else {
						wantBit(t, what, r, v, e, p-15)
					}
					r.d.Over(p, data)
				}
			}
			r.open(t)
			wantTwoCommits(t, r.v)
		})
	}
}

// wantBit checks a vault of which at most one page was changed: it is noticed if that page was ever sealed.
func wantBit(t *testing.T, what string, r *rig, v *vault.Vault, e api.Errno, changed int) {
	t.Helper()
	if v == nil || e != api.OK {
		t.Fatalf("%s: Open: error %d", what, e)
	}
	for p, b := range map[int]byte{3: 'a', 4: 'c', 18: 'd', changed: 0} {
		if p == changed && (p == 3 || p == 4 || p == 18) || p < 0 {
			continue
		}
		wantPage(t, v, p, page(b))
	}
	if changed == 3 || changed == 4 || changed == 18 {
		wantNoPage(t, v, changed, api.ErrTampered)
		want(t, what, v.Err(), api.ErrTampered)
	}
}

// TestHeader: with any Mac that is right, a header is only accepted as it is described, with the last number.
func TestHeader(t *testing.T) {
	for name, s := range suites() {
		t.Run(name, func(t *testing.T) {
			r := twoCommits(t, s)
			stable := r.d.Stable()
			leaves := stable[13:15]
			right := "SWHD" + number(r.tr.Commit)
			for _, title := range []string{"SWHE" + number(r.tr.Commit), "swhd" + number(r.tr.Commit), "SWJL" + number(r.tr.Commit), zeros(4) + number(r.tr.Commit), "SWHD" + number(r.tr.Commit+1), "SWHD" + number(r.tr.Commit-1), "SWHD" + number(0), "SWHD" + number(1<<20), "SWHD\x80" + number(r.tr.Commit)[1:], "SWHD" + number(-1)} {
				r.d.Over(0, signedBy(s, title, leaves...))
				wantNoOpen(t, fmt.Sprintf("%q", title), r, api.ErrTampered)
			}
			good := signedBy(s, right, leaves...)
			for i := 44; i < 256; i++ {
				r.d.Over(0, good[:i]+"\x01"+good[i+1:])
				wantNoOpen(t, fmt.Sprint("byte ", i), r, api.ErrTampered)
			}
			for _, data := range []string{zeros(256), strings.Repeat("\xff", 256), right + good[:244], stable[1], stable[13], stable[18]} {
				r.d.Over(0, data)
				wantNoOpen(t, fmt.Sprintf("%.40q", data), r, api.ErrTampered)
			}
			r.d.Over(0, good) // another Mac of the same
			r.open(t)
			wantTwoCommits(t, r.v)
		})
	}
}

// TestLeaves: with a right Mac, pages of leaves are only accepted as they are described: numbers, and zero bytes after the last leaf.
func TestLeaves(t *testing.T) {
	for name, s := range suites() {
		t.Run(name, func(t *testing.T) {
			r := twoCommits(t, s)
			stable := r.d.Stable()
			title := "SWHD" + number(r.tr.Commit)
			leaves := strings.Join(stable[13:15], "")
			put := func(at int, b byte) {
				changed := leaves[:at] + string([]byte{b}) + leaves[at+1:]
				r.d.Over(13, changed[:256])
				r.d.Over(14, changed[256:])
				r.d.Over(0, signedBy(s, title, changed))
			}
			for at := range 512 {
				put(at, leaves[at]^0x80)
				switch {
				case at >= 20*16:
					wantNoOpen(t, fmt.Sprint("after the last leaf: ", at), r, api.ErrTampered)
				case at%8 == 0:
					wantNoOpen(t, fmt.Sprint("no number: ", at), r, api.ErrTampered)
				default:
					r.open(t) // a number, so that the page is somewhere else
					wantNoPage(t, r.v, at/16, api.ErrTampered)
				}
			}
			put(19*16+15, 1)
			r.open(t)
			wantNoPage(t, r.v, 19, api.ErrTampered)
			put(3*16+15, leaves[3*16+15])
			r.open(t)
			wantTwoCommits(t, r.v)
		})
	}
}

// TestOtherLeaf: a page is only opened where its leaf says, with its own number.
func TestOtherLeaf(t *testing.T) {
	for name, s := range suites() {
		t.Run(name, func(t *testing.T) {
			r := twoCommits(t, s)
			stable := r.d.Stable()
			one, other := stable[13][3*16:4*16], stable[13][4*16:5*16]
			swapped := stable[13][:3*16] + other + one + stable[13][5*16:]
			r.d.Over(13, swapped)
			r.d.Over(0, signedBy(s, "SWHD"+number(r.tr.Commit), swapped, stable[14]))
			r.open(t)
			wantNoPage(t, r.v, 3, api.ErrTampered)
			r.d.Swap(15+3, 15+4) // what is there fits the leaf, but belongs to another page
			r.open(t)
			wantNoPage(t, r.v, 3, api.ErrTampered)
		})
	}
}

// journalOf returns a rig on whose disk a journal is.
func journalOf(t *testing.T, r *rig, l ...journal.Page) *rig {
	t.Helper()
	x := r.clone()
	want(t, "Prepare", journal.Prepare(x.d, 1, x.c.Journal, l...), api.OK)
	return x
}

// TestReplayed: a journal is replayed if its last page is page 0 of the disk, and begins as a header of the last commit does.
func TestReplayed(t *testing.T) {
	for name, s := range suites() {
		t.Run(name, func(t *testing.T) {
			r := twoCommits(t, s)
			header := r.d.Stable()[0]
			x := journalOf(t, r, journal.Page{At: 15 + 9, Data: padded("nine")}, journal.Page{At: 0, Data: header})
			first := x.d.Steps()
			x.open(t)
			wantTwoCommits(t, x.v)
			want(t, "page 9", x.d.Stable()[15+9], padded("nine"))
			wantSteps(t, "Open", x.d, first, []disk.Op{{Kind: disk.Write, Page: 15 + 9, Data: padded("nine")}, {Kind: disk.Write, Page: 0, Data: header}, {Kind: disk.Flush}, {Kind: disk.Write, Page: 1, Data: zeros(256)}, {Kind: disk.Flush}})
			// whatever follows the number
			x = journalOf(t, r, journal.Page{At: 0, Data: header[:12] + strings.Repeat("?", 244)})
			wantNoOpen(t, "no Mac", x, api.ErrTampered)
			want(t, "page 0", x.d.Stable()[0], header[:12]+strings.Repeat("?", 244))
			want(t, "page 1", x.d.Stable()[1], zeros(256))
		})
	}
}

// TestErased: any other journal is erased, and has no effect.
func TestErased(t *testing.T) {
	for name, s := range suites() {
		t.Run(name, func(t *testing.T) {
			r := twoCommits(t, s)
			header := r.d.Stable()[0]
			for what, l := range map[string][]journal.Page{
				"page 0 is not the last":   {{At: 0, Data: header}, {At: 15 + 3, Data: padded("three")}},
				"no page 0":                {{At: 15 + 3, Data: padded("three")}},
				"the header elsewhere":     {{At: 15 + 3, Data: header}},
				"the next number":          {{At: 15 + 3, Data: padded("three")}, {At: 0, Data: "SWHD" + number(r.tr.Commit+1) + header[12:]}},
				"the number before":        {{At: 15 + 3, Data: padded("three")}, {At: 0, Data: "SWHD" + number(r.tr.Commit-1) + header[12:]}},
				"another mark":             {{At: 15 + 3, Data: padded("three")}, {At: 0, Data: "SWHE" + header[4:]}},
				"no mark":                  {{At: 15 + 3, Data: padded("three")}, {At: 0, Data: zeros(256)}},
				"a header before the last": {{At: 15 + 3, Data: padded("three")}, {At: 0, Data: header}, {At: 0, Data: zeros(256)}},
				"a page of leaves":         {{At: 13, Data: zeros(256)}},
			} {
				x := journalOf(t, r, l...)
				first, stable := x.d.Steps(), x.d.Stable()
				x.open(t)
				wantTwoCommits(t, x.v)
				wantSteps(t, what, x.d, first, []disk.Op{{Kind: disk.Write, Page: 1, Data: zeros(256)}, {Kind: disk.Flush}})
				stable[1] = zeros(256)
				want(t, what, slices.Equal(x.d.Stable(), stable), true)
				found, e := journal.Find(x.d, 1, x.c.Journal)
				want(t, what, len(found), 0)
				want(t, what, e, api.OK)
			}
		})
	}
}

// TestNoJournal: what is no complete journal is left as it is.
func TestNoJournal(t *testing.T) {
	r := twoCommits(t, suite.Real("key"))
	for p := 1; p < 13; p++ {
		r.d.Over(p, padded(fmt.Sprint("SWJL", p)))
	}
	first, stable := r.d.Steps(), r.d.Stable()
	r.open(t)
	wantTwoCommits(t, r.v)
	wantSteps(t, "Open", r.d, first, nil)
	want(t, "stable", slices.Equal(r.d.Stable(), stable), true)
}

// TestPlaceOfJournal: only a journal of exactly that place is one.
func TestPlaceOfJournal(t *testing.T) {
	r := twoCommits(t, suite.Real("key"))
	want(t, "Prepare", journal.Prepare(r.d, 2, r.c.Journal-1, journal.Page{At: 13, Data: zeros(256)}, journal.Page{At: 0, Data: r.d.Stable()[0]}), api.OK)
	r.open(t)
	wantTwoCommits(t, r.v)
}

// TestFormatErasesJournal: one that is there before Format is not found after it.
func TestFormatErasesJournal(t *testing.T) {
	r := twoCommits(t, suite.Real("key"))
	x := journalOf(t, r, journal.Page{At: 15 + 3, Data: padded("three")}, journal.Page{At: 0, Data: "SWHD" + number((r.tr.Boot+1)<<20) + zeros(244)})
	x.format(t)
	first := x.d.Steps()
	x.open(t)
	wantSteps(t, "Open", x.d, first, nil)
	wantPage(t, x.v, 3, page(0))
}

// TestNeverFormatted: a disk of zero bytes, or of any bytes, is not opened.
func TestNeverFormatted(t *testing.T) {
	for name, s := range suites() {
		for _, b := range []byte{0, 'a', 0xff} {
			r := &rig{d: disk.New(100, 3), s: s, tr: &vault.Trusted{}, c: vault.Config{Pages: 20, Journal: 12}}
			for p := range 100 {
				r.d.Over(p, strings.Repeat(string([]byte{b}), 256))
			}
			wantNoOpen(t, name, r, api.ErrTampered)
			want(t, name, *r.tr, vault.Trusted{Boot: 1})
		}
	}
}

// TestZeroMac: a page of zero bytes is no header, also if its Mac were right.
func TestZeroMac(t *testing.T) {
	s := suite.Ideal("")
	if sum := s.Mac("SWHD" + number(0) + zeros(512)); string(sum[:]) != zeros(32) {
		t.Fatal("not the Mac that this test is about")
	}
	r := &rig{d: disk.New(35, 3), s: s, tr: &vault.Trusted{}, c: vault.Config{Pages: 20, Journal: 12}}
	wantNoOpen(t, "zero bytes", r, api.ErrTampered)
	r.d.Over(0, padded("SWHD"))
	r.open(t)
}
