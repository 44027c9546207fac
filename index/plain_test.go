package index_test

import (
	"encoding/binary"
	"maps"
	"regexp"
	"slices"
	"strings"
	"testing"

	"sealwax/api"
	"sealwax/index"
	"sealwax/suite"
)

const most = 1 << 40

var plainWordForm = regexp.MustCompile(`^[a-z0-9]{1,16}$`)

// plain is an index that is written apart from the program: it keeps lists, and hides nothing until it is packed.
type plain struct {
	s     *suite.Suite
	words map[string]plainWord
}

type plainWord struct {
	next, first int
	skipped     []int
	postings    []plainPosting
}

type plainPosting struct {
	n, id   int
	removes bool
}

func newPlain(s *suite.Suite) *plain { return &plain{s: s, words: map[string]plainWord{}} }

func (p *plain) clone() *plain {
	c := newPlain(p.s)
	for w, x := range p.words {
		x.skipped, x.postings = slices.Clone(x.skipped), slices.Clone(x.postings)
		c.words[w] = x
	}
	return c
}

// add asks the suite for the labels as they are needed, since an ideal one counts them.
func (p *plain) add(id int, removes bool, l ...string) {
	if id < 0 {
		id = 0
	}
	if id > most {
		id = most
	}
	for _, w := range l {
		if !plainWordForm.MatchString(w) {
			continue
		}
		x := p.words[w]
		p.s.Label(w, x.next, 0)
		p.s.Label(w, x.next, 1)
		x.postings = append(x.postings, plainPosting{x.next, id, removes})
		x.next++
		p.words[w] = x
	}
}

func (p *plain) has(w string, id int) bool {
	l := p.words[w].postings
	for i := len(l) - 1; i >= 0; i-- {
		if l[i].id == id {
			return !l[i].removes
		}
	}
	return false
}

// ids returns the numbers of all texts that were ever named, in ascending order.
func (p *plain) ids() []int {
	seen := map[int]bool{}
	for _, x := range p.words {
		for _, y := range x.postings {
			seen[y.id] = true
		}
	}
	return slices.Sorted(maps.Keys(seen))
}

func (p *plain) find(l ...string) []int {
	var out []int
	for _, id := range p.ids() {
		all := len(l) > 0
		for _, w := range l {
			all = all && p.has(w, id)
		}
		if all {
			out = append(out, id)
		}
	}
	return out
}

func (p *plain) fresh(l ...string) int {
	before := p.size()
	for _, w := range l {
		x, ok := p.words[w]
		if !ok {
			continue
		}
		ids := p.find(w)
		p.words[w] = plainWord{next: x.next, first: x.next}
		for _, id := range ids {
			p.add(id, false, w)
		}
	}
	return before - p.size()
}

func (p *plain) list() []string { return slices.Sorted(maps.Keys(p.words)) }

func (p *plain) size() int {
	n := 0
	for _, x := range p.words {
		n += len(x.postings)
	}
	return n
}

// entries returns each label with the bytes behind it, in ascending order.
func (p *plain) entries() []string {
	var out []string
	for w, x := range p.words {
		for _, y := range x.postings {
			out = append(out, plainEntry(p.s, w, y))
		}
	}
	slices.Sort(out)
	return out
}

func (p *plain) pack() string {
	out := num(len(p.words))
	for _, w := range p.list() {
		x := p.words[w]
		out += word(w) + num(x.next) + num(x.first) + num(len(x.skipped))
		for _, n := range x.skipped {
			out += num(n)
		}
	}
	return out + num(p.size()) + strings.Join(p.entries(), "")
}

// plainEntry returns a label and the bytes behind it.
func plainEntry(s *suite.Suite, w string, y plainPosting) string {
	v := y.id + y.id
	if y.removes {
		v++
	}
	return entry(s, w, y.n, num(v)+zeros(8))
}

// entry returns a label and what is behind it if these bytes are hidden.
func entry(s *suite.Suite, w string, n int, bytes string) string {
	label, mask := s.Label(w, n, 0), s.Label(w, n, 1)
	out := string(label[:])
	for i := range 16 {
		out += string([]byte{bytes[i] ^ mask[i]})
	}
	return out
}

// num returns the eight bytes of a number.
func num(n int) string { return string(binary.BigEndian.AppendUint64(nil, uint64(n))) }

// word returns the 16 bytes of a word.
func word(w string) string { return (w + zeros(16))[:16] }

func zeros(n int) string { return strings.Repeat("\x00", n) }

// plainIn reads bytes until something is wrong.
type plainIn struct {
	left string
	e    api.Errno
}

func (in *plainIn) fail(e api.Errno) {
	if in.e == api.OK {
		in.e = e
	}
}

func (in *plainIn) raw(n int) string {
	if in.e != api.OK || n > len(in.left) {
		in.fail(api.ErrEnd)
		return zeros(n)
	}
	out := in.left[:n]
	in.left = in.left[n:]
	return out
}

func (in *plainIn) num() int {
	v := binary.BigEndian.Uint64([]byte(in.raw(8)))
	if v >= 1<<63 {
		in.fail(api.ErrForm)
		return 0
	}
	return int(v)
}

// plainRead is a reader that is written apart from the program. It tells only whether these bytes are those of an index.
func plainRead(s *suite.Suite, t string) api.Errno {
	in := &plainIn{left: t}
	type place struct {
		w string
		n int
	}
	places := []place{}
	size, before := 0, ""
	for i := in.num(); i > 0 && in.e == api.OK; i-- {
		w := in.raw(16)
		w, rest, _ := strings.Cut(w, "\x00")
		if !plainWordForm.MatchString(w) || strings.Trim(rest, "\x00") != "" || w <= before {
			in.fail(api.ErrForm)
		}
		before = w
		next := in.num()
		first := in.num()
		if next < first || next > most {
			in.fail(api.ErrForm)
		}
		skipped := map[int]bool{}
		last := -1
		for j := in.num(); j > 0 && in.e == api.OK; j-- {
			n := in.num()
			if n < first || n >= next || n <= last {
				in.fail(api.ErrForm)
			}
			skipped[n] = true
			last = n
		}
		size += next - first - len(skipped)
		for n := first; n < next && in.e == api.OK && len(places) < 10000; n++ {
			if !skipped[n] {
				places = append(places, place{w, n})
			}
		}
	}
	entries := map[string]string{}
	before = ""
	for i := in.num(); i > 0 && in.e == api.OK; i-- {
		label := in.raw(16)
		if before != "" && label <= before {
			in.fail(api.ErrForm)
		}
		before = label
		entries[label] = in.raw(16)
	}
	if in.e == api.OK && (in.left != "" || size != len(entries) || size != len(places)) {
		in.fail(api.ErrForm)
	}
	if in.e != api.OK {
		return in.e
	}
	for _, x := range places {
		label := s.Label(x.w, x.n, 0)
		if _, ok := entries[string(label[:])]; !ok {
			return api.ErrForm
		}
		delete(entries, string(label[:]))
	}
	return api.OK
}

// suites returns a real suite and ideal ones, each twice, so that one of them can be asked apart.
func suites() map[string][2]*suite.Suite {
	return map[string][2]*suite.Suite{
		"real":          {suite.Real("a key"), suite.Real("a key")},
		"ideal":         {suite.Ideal("a tape of some bytes"), suite.Ideal("a tape of some bytes")},
		"with no tape":  {suite.Ideal(""), suite.Ideal("")},
		"with one byte": {suite.Ideal("\xff"), suite.Ideal("\xff")},
	}
}

func wantFind(t *testing.T, x *index.Index, l []string, wanted ...int) {
	t.Helper()
	if got := x.Find(l...); !slices.Equal(got, wanted) {
		t.Errorf("Find %q: got %v, want %v", l, got, wanted)
	}
}

// wantAlike checks everything that an index tells.
func wantAlike(t *testing.T, x *index.Index, p *plain) {
	t.Helper()
	if got, wanted := x.Words(), p.list(); !slices.Equal(got, wanted) {
		t.Errorf("Words: got %q, want %q", got, wanted)
	}
	if got, wanted := x.Len(), p.size(); got != wanted {
		t.Errorf("Len: got %d, want %d", got, wanted)
	}
	if got, wanted := x.Pack(), p.pack(); got != wanted {
		t.Errorf("Pack: got %x, want %x", got, wanted)
	}
	for _, w := range p.list() {
		wantFind(t, x, []string{w}, p.find(w)...)
	}
}

func wantRead(t *testing.T, s *suite.Suite, packed string) *index.Index {
	t.Helper()
	x, e := index.Read(s, packed)
	if e != api.OK {
		t.Fatalf("Read of %x: error %d", packed, e)
	}
	if x.Pack() != packed {
		t.Errorf("Read of %x: packed again it is %x", packed, x.Pack())
	}
	return x
}

func wantNoRead(t *testing.T, s *suite.Suite, packed string, wanted api.Errno) {
	t.Helper()
	x, e := index.Read(s, packed)
	if x != nil || e != wanted {
		t.Errorf("Read of %x: error %d, want %d", packed, e, wanted)
	}
}
