package journal_test

import (
	"fmt"
	"math/rand"
	"slices"
	"strings"
	"testing"

	"sealwax/api"
	"sealwax/disk"
	"sealwax/journal"
)

const (
	pagesOf = 20
	placeAt = 4
	sizeOf  = 9
)

// TestEveryByteCounts: P10.1, a journal with another bit anywhere is none.
func TestEveryByteCounts(t *testing.T) {
	l := writes(3, pagesOf, placeAt, sizeOf)
	whole := plainJournal(l)
	d := stored(t, pagesOf, placeAt, whole)
	wantFound(t, d, placeAt, sizeOf, l)
	for i, s := range whole {
		for bit := range 256 * 8 {
			b := []byte(s)
			b[bit/8] ^= 1 << (bit % 8)
			d.Over(placeAt+i, string(b))
			if x, e := journal.Find(d, placeAt, sizeOf); len(x) != 0 || e != api.OK {
				t.Fatalf("page %d, bit %d: got %d pages, error %d", i, bit, len(x), e)
			}
		}
		d.Over(placeAt+i, s)
	}
	wantFound(t, d, placeAt, sizeOf, l)
}

// TestBehindTheJournal: what follows it in the place does not count.
func TestBehindTheJournal(t *testing.T) {
	l := writes(3, pagesOf, placeAt, sizeOf)
	d := stored(t, pagesOf, placeAt, plainJournal(l))
	for p := range pagesOf {
		if p < placeAt || p >= placeAt+5 {
			d.Over(p, numbered(p))
		}
	}
	wantFound(t, d, placeAt, sizeOf, l)
}

// TestCounts: a header's number must be that of its hash, and one for which there is room.
func TestCounts(t *testing.T) {
	l := writes(7, pagesOf, placeAt, sizeOf)
	body := plainBody(l)
	place := func(n uint64, hashed int) []string {
		return append([]string{plainHeader(n, body[:hashed])}, body...)
	}
	for n := 1; n <= 7; n++ {
		for hashed := range 9 {
			d := stored(t, pagesOf, placeAt, place(uint64(n), hashed))
			if hashed == 1+n {
				wantFound(t, d, placeAt, sizeOf, l[:n])
			} else {
				wantNothing(t, fmt.Sprintf("%d with the hash of %d pages", n, hashed), d, placeAt, sizeOf)
			}
		}
	}
	for _, n := range []uint64{0, 8, 9, 32, 33, 4096, 1 << 20, 1 << 32, 1<<62 + 7, 1<<63 - 1, 1 << 63, 1<<63 + 7, 1<<64 - 1} {
		for hashed := range 9 {
			wantNothing(t, fmt.Sprint(n), stored(t, pagesOf, placeAt, place(n, hashed)), placeAt, sizeOf)
		}
	}
}

// TestRoomOfThePlace: a journal that fits on the disk, but not in the place, is none.
func TestRoomOfThePlace(t *testing.T) {
	l := []journal.Page{{At: 0, Data: page('a')}, {At: 1, Data: page('b')}, {At: 2, Data: page('c')}}
	d := stored(t, pagesOf, placeAt, plainJournal(l))
	wantFound(t, d, placeAt, 5, l)
	wantFound(t, d, placeAt, 16, l)
	wantNothing(t, "4 pages", d, placeAt, 4)
	wantNothing(t, "3 pages", d, placeAt, 3)
	wantNothing(t, "another beginning", d, placeAt-1, 9)
	wantNothing(t, "another beginning", d, placeAt+1, 9)
}

// TestHeaders: everything that is not a header as described is none.
func TestHeaders(t *testing.T) {
	l := writes(2, pagesOf, placeAt, sizeOf)
	whole := plainJournal(l)
	header := whole[0]
	for name, s := range map[string]string{
		"zero bytes":       zeros,
		"other bytes":      page(0xff),
		"another mark":     "SWHD" + header[4:],
		"small letters":    "swjl" + header[4:],
		"no mark":          header[4:] + "\x00\x00\x00\x00",
		"moved":            "\x00" + header[:255],
		"only the mark":    padded("SWJL", 0),
		"no hash":          padded(header[:12], 0),
		"half a hash":      padded(header[:28], 0),
		"another ending":   header[:255] + "\x01",
		"a byte more":      padded(header[:44]+"\x01", 0),
		"not zero":         padded(header[:44], ' '),
		"backward number":  "SWJL\x02\x00\x00\x00\x00\x00\x00\x00" + header[12:],
		"the hash of none": plainHeader(2, nil),
		"hash with header": plainHeader(2, whole),
		"hash of numbers":  plainHeader(2, whole[1:2]),
		"hash of pages":    plainHeader(2, whole[2:]),
		"hash of more":     plainHeader(2, append(slices.Clone(whole[1:]), zeros)),
	} {
		d := stored(t, pagesOf, placeAt, append([]string{s}, whole[1:]...))
		wantNothing(t, name, d, placeAt, sizeOf)
	}
}

// TestPagesOfTheJournal: with a right hash, but with a page that is in the place or does not exist, it is none.
func TestPagesOfTheJournal(t *testing.T) {
	for i := range 3 {
		for p := range uint64(pagesOf + 3) {
			body := plainBody(writes(3, pagesOf, placeAt, sizeOf))
			body[0] = body[0][:8*i] + number(p) + body[0][8*i+8:]
			d := stored(t, pagesOf, placeAt, append([]string{plainHeader(3, body)}, body...))
			if p < placeAt || p >= placeAt+sizeOf && p < pagesOf {
				l, e := journal.Find(d, placeAt, sizeOf)
				if len(l) != 3 || e != api.OK || l[i].At != int(p) || l[i].Data != body[1+i] {
					t.Errorf("page %d is %d: got %d pages, error %d", i, p, len(l), e)
				}
			} else {
				wantNothing(t, fmt.Sprintf("page %d is %d", i, p), d, placeAt, sizeOf)
			}
		}
		for _, p := range []uint64{4096, 1 << 32, 1<<63 - 1, 1 << 63, 1<<63 + 1, 1<<64 - 1, 1 << 56} {
			body := plainBody(writes(3, pagesOf, placeAt, sizeOf))
			body[0] = body[0][:8*i] + number(p) + body[0][8*i+8:]
			d := stored(t, pagesOf, placeAt, append([]string{plainHeader(3, body)}, body...))
			wantNothing(t, fmt.Sprintf("page %d is %d", i, p), d, placeAt, sizeOf)
		}
	}
}

// TestBehindTheNumbers: what follows them is only checked by the hash.
func TestBehindTheNumbers(t *testing.T) {
	for _, n := range []int{1, 3, 31, 33} {
		l := writes(n, 60, 4, 40)
		body := plainBody(l)
		last := (n+31)/32 - 1
		used := 8 * (n - 32*last)
		body[last] = body[last][:used] + strings.Repeat("\xff", 256-used)
		d := stored(t, 60, 4, append([]string{plainHeader(uint64(n), body)}, body...))
		wantFound(t, d, 4, 40, l)
	}
}

// TestCachedJournal: Find and Replay read what was written, stable or not.
func TestCachedJournal(t *testing.T) {
	l := writes(3, pagesOf, placeAt, sizeOf)
	d := disk.New(pagesOf, 100)
	after := replayed(d, placeAt, sizeOf, l)
	for i, s := range plainJournal(l) {
		want(t, "Write", d.Write(placeAt+i, s), api.OK)
	}
	wantFound(t, d, placeAt, sizeOf, l)
	want(t, "Cached", d.Cached(), 5)
	n, e := journal.Replay(d, placeAt, sizeOf)
	want(t, "Replay", n, 3)
	want(t, "Replay", e, api.OK)
	want(t, "all", slices.Equal(outside(d, placeAt, sizeOf), after), true)
}

// plainFind is written apart from the program: it builds the journal that the stored pages say, and compares.
func plainFind(stable []string, at, size int) []journal.Page {
	place := stable[at : at+size]
	for n := 1; n <= plainRoom(size); n++ {
		rows := (n + 31) / 32
		body := place[1 : 1+rows+n]
		if place[0] != plainHeader(uint64(n), body) {
			continue
		}
		var out []journal.Page
		numbers := strings.Join(body[:rows], "")
		for i := range n {
			p := 0
			for p < len(stable) && number(uint64(p)) != numbers[8*i:8*i+8] {
				p++
			}
			if p == len(stable) || p >= at && p < at+size {
				return nil
			}
			out = append(out, journal.Page{At: p, Data: body[rows+i]})
		}
		return out
	}
	return nil
}

// TestAnyBytes: P10.1, any stored bytes, most of them nearly a journal.
func TestAnyBytes(t *testing.T) {
	r := rand.New(rand.NewSource(10))
	found := 0
	for range 4000 {
		pages := 8 + r.Intn(50)
		size := 3 + r.Intn(pages-3)
		at := r.Intn(pages - size + 1)
		n := 1 + r.Intn(plainRoom(size)+1)
		var l []journal.Page
		for range n {
			p := r.Intn(pages)
			if r.Intn(60) > 0 && size < pages {
				for p >= at && p < at+size {
					p = r.Intn(pages)
				}
			}
			l = append(l, journal.Page{At: p, Data: numbered(r.Intn(1000))})
		}
		d := disk.New(pages, 4)
		for i, s := range plainJournal(l) {
			d.Over(at+i, s)
		}
		if r.Intn(4) == 0 {
			s := []byte(d.Stable()[at+r.Intn(size)])
			s[r.Intn(50)] = byte(r.Intn(256))
			d.Over(at+r.Intn(size), string(s))
		}
		wanted := plainFind(d.Stable(), at, size)
		if len(wanted) == 0 {
			wantNothing(t, "any bytes", d, at, size)
			continue
		}
		found++
		wantFound(t, d, at, size, wanted)
		after := d.Stable()
		for _, x := range wanted {
			after[x.At] = x.Data
		}
		after[at] = zeros
		got, e := journal.Replay(d, at, size)
		if got != len(wanted) || e != api.OK || !slices.Equal(d.Stable(), after) {
			t.Errorf("Replay: got %d, error %d", got, e)
		}
	}
	if found < 500 || found > 3500 {
		t.Errorf("%d journals of 4000: the test asks for one kind only", found)
	}
}
