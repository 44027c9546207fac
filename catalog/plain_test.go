package catalog_test

import (
	"encoding/binary"
	"fmt"
	"math"
	"regexp"
	"slices"
	"strings"
	"testing"

	"sealwax/alloc"
	"sealwax/api"
	"sealwax/box"
	"sealwax/catalog"
	"sealwax/index"
	"sealwax/suite"
)

const most = 1 << 40

var plainName = regexp.MustCompile(`^([a-zA-Z0-9._-]+(?:/[a-zA-Z0-9._-]+)*)\x00*$`)

// num returns the bytes of numbers.
func num(l ...int) string {
	var out []byte
	for _, n := range l {
		out = binary.BigEndian.AppendUint64(out, uint64(n))
	}
	return string(out)
}

func zeros(n int) string { return strings.Repeat("\x00", n) }

// text returns the bytes of a text.
func text(s string) string { return num(len(s)) + s }

// name returns the bytes of a name and its number.
func name(s string, id int) string { return (s + zeros(32))[:32] + num(id) }

// mailbox returns the bytes of a mailbox.
func mailbox(validity, next int, l ...box.Entry) string {
	out := num(validity, next, len(l))
	for _, e := range l {
		out += num(e.UID, e.Flags, e.Mail)
	}
	return out
}

// place returns the bytes of a mail.
func place(id, first, count int) string { return num(id, first, count) }

// noIndex is what the bytes of a catalog end with if no mail has a word.
var noIndex = text(zeros(16))

// reader reads numbers and bytes one after the other, up to the first error.
type reader struct {
	s string
	e api.Errno
}

func (r *reader) raw(n int) string {
	if r.e == api.OK && len(r.s) < n {
		r.e = api.ErrEnd
	}
	if r.e != api.OK {
		return zeros(n)
	}
	out := r.s[:n]
	r.s = r.s[n:]
	return out
}

func (r *reader) num() int {
	n := binary.BigEndian.Uint64([]byte(r.raw(8)))
	r.check(n <= math.MaxInt)
	return int(n)
}

func (r *reader) text() string {
	n := r.num()
	if r.e == api.OK && n > len(r.s) {
		r.e = api.ErrEnd
	}
	if r.e != api.OK {
		return ""
	}
	return r.raw(n)
}

func (r *reader) check(fine bool) {
	if r.e == api.OK && !fine {
		r.e = api.ErrForm
	}
}

func (r *reader) names() []int {
	next, count := r.num(), r.num()
	r.check(next > 0 && next <= most && count <= 16)
	ids, last := []int{}, ""
	for i := 0; i < count && r.e == api.OK; i++ {
		s, id := r.raw(32), r.num()
		l := plainName.FindStringSubmatch(s)
		r.check(l != nil && strings.Compare(s, last) > 0 && id > 0 && id < next && !slices.Contains(ids, id))
		ids, last = append(ids, id), s
	}
	return ids
}

// box returns the mails of the entries of a mailbox.
func (r *reader) box(id int) []int {
	validity, next, count := r.num(), r.num(), r.num()
	r.check(validity > 0 && validity <= most && next > 0 && next <= most && count <= 256)
	mails, last := []int{}, 0
	for i := 0; i < count && r.e == api.OK; i++ {
		uid, flags, mail := r.num(), r.num(), r.num()
		r.check(uid > last && uid < next && flags < 32 && mail > 0 && mail <= most)
		mails, last = append(mails, mail), uid
	}
	r.check(validity == id)
	return mails
}

// mails returns the numbers of the mails.
func (r *reader) mails() []int {
	next, count := r.num(), r.num()
	r.check(next > 0 && next <= most && count <= 4096)
	ids := []int{0} // no mail has the number 0
	for i := 0; i < count && r.e == api.OK; i++ {
		id, first, count := r.num(), r.num(), r.num()
		r.check(id > ids[i] && id < next && first > 0 && first <= 4096 && count > 0 && count <= 4096)
		ids = append(ids, id)
	}
	return ids[1:]
}

// plainRead is a reader that is written apart from the program, but for the index. It returns which error there is.
func plainRead(s *suite.Suite, t string) api.Errno {
	r := &reader{s: t}
	ids := r.names()
	slices.Sort(ids)
	var needed []int
	for _, id := range ids {
		needed = append(needed, r.box(id)...)
	}
	mails := r.mails()
	packed := r.text()
	if r.e == api.OK {
		_, r.e = index.Read(s, packed)
	}
	r.check(r.s == "")
	for _, id := range needed {
		r.check(slices.Contains(mails, id))
	}
	return r.e
}

// want compares results.
func want[T comparable](t *testing.T, what string, got, wanted T) {
	t.Helper()
	if got != wanted {
		t.Errorf("%s: got %.400s, want %.400s", what, fmt.Sprint(got), fmt.Sprint(wanted))
	}
}

func wantNumbers(t *testing.T, what string, got []int, wanted ...int) {
	t.Helper()
	if !slices.Equal(got, wanted) {
		t.Errorf("%s: got %v, want %v", what, got, wanted)
	}
}

func wantSpans(t *testing.T, c *catalog.Catalog, wanted ...alloc.Span) {
	t.Helper()
	if got := c.Spans(); !slices.Equal(got, wanted) {
		t.Errorf("Spans: got %v, want %v", got, wanted)
	}
}

// wantRead checks that these are the bytes of a catalog, and returns it.
func wantRead(t *testing.T, s *suite.Suite, packed string) *catalog.Catalog {
	t.Helper()
	c, e := catalog.Read(s, packed)
	if e != api.OK || c == nil {
		t.Fatalf("Read %.400q: error %d", packed, e)
	}
	want(t, "Pack again", c.Pack(), packed)
	want(t, "mailboxes", len(c.Boxes), len(c.Names.List()))
	for id, b := range c.Boxes {
		_, is := c.Names.Name(id)
		want(t, "there is a name for the mailbox", is, true)
		want(t, "Validity", b.Validity(), id)
		for _, e := range b.List() {
			_, is := c.Mails[e.Mail]
			want(t, "there is a mail for the entry", is, true)
		}
	}
	return c
}

func wantNoRead(t *testing.T, s *suite.Suite, packed string, wanted api.Errno) {
	t.Helper()
	if c, e := catalog.Read(s, packed); e != wanted || c != nil {
		t.Errorf("Read %.600q: got %v, error %d, want error %d", packed, c != nil, e, wanted)
	}
}

// wantLikePlain checks that these bytes are read, or not, as the other reader says.
func wantLikePlain(t *testing.T, s *suite.Suite, packed string) api.Errno {
	t.Helper()
	e := plainRead(s, packed)
	if e == api.OK {
		wantRead(t, s, packed)
	} else {
		wantNoRead(t, s, packed, e)
	}
	return e
}
