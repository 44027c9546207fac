package names_test

import (
	"encoding/binary"
	"math"
	"regexp"
	"slices"
	"strings"
	"testing"

	"sealwax/api"
	"sealwax/names"
	"sealwax/wire"
)

const most = 1 << 40

var (
	plainName  = regexp.MustCompile(`^[a-zA-Z0-9._-]+(/[a-zA-Z0-9._-]+)*$`)
	plainBytes = regexp.MustCompile(`(?s)^([^\x00]+)\x00*$`)
)

func plainCheck(name string) bool { return len(name) <= 32 && plainName.MatchString(name) }

// plain is names that are written apart from the program: all numbers that were ever assigned, each with the name that it has, or with none.
type plain struct {
	names []string // by number; there is no name 0
	first int      // the numbers below it were assigned before
}

func newPlain() *plain { return &plain{first: 1} }

func (p *plain) clone() *plain { return &plain{names: slices.Clone(p.names), first: p.first} }

func (p *plain) next() int { return p.first + len(p.names) }

func (p *plain) list() []string {
	var out []string
	for _, name := range p.names {
		if name != "" {
			out = append(out, name)
		}
	}
	slices.Sort(out)
	return out
}

func (p *plain) of(name string) (int, bool) {
	i := slices.Index(p.names, name)
	if i < 0 || name == "" {
		return 0, false
	}
	return p.first + i, true
}

func (p *plain) name(id int) (string, bool) {
	if id < p.first || id >= p.next() {
		return "", false
	}
	name := p.names[id-p.first]
	return name, name != ""
}

func (p *plain) create(name string) (int, api.Errno) {
	switch {
	case !plainCheck(name):
		return 0, api.ErrArg
	case slices.Contains(p.names, name):
		return 0, api.ErrThere
	case len(p.list()) == 16:
		return 0, api.ErrFull
	}
	p.names = append(p.names, name)
	return p.next() - 1, api.OK
}

func (p *plain) change(name, to string) (int, api.Errno) {
	id, is := p.of(name)
	if !is {
		return 0, api.ErrName
	}
	p.names[id-p.first] = to
	return id, api.OK
}

func (p *plain) rename(name, to string) (int, api.Errno) {
	if _, is := p.of(name); !is {
		return 0, api.ErrName
	}
	if !plainCheck(to) {
		return 0, api.ErrArg
	}
	if slices.Contains(p.names, to) {
		return 0, api.ErrThere
	}
	return p.change(name, to)
}

func (p *plain) pack() string {
	out := num(p.next()) + num(len(p.list()))
	for _, name := range p.list() {
		id, _ := p.of(name)
		out += entry(name, id)
	}
	return out
}

// num returns the bytes of a number.
func num(n int) string { return string(binary.BigEndian.AppendUint64(nil, uint64(n))) }

func zeros(n int) string { return strings.Repeat("\x00", n) }

// entry returns the bytes of a name and its number.
func entry(name string, id int) string { return (name + zeros(32))[:32] + num(id) }

// plainNum returns the number that begins at a place.
func plainNum(s string, at int) (int, api.Errno) {
	if len(s)-at < 8 {
		return 0, api.ErrEnd
	}
	n := binary.BigEndian.Uint64([]byte(s[at:]))
	if n > math.MaxInt {
		return 0, api.ErrForm
	}
	return int(n), api.OK
}

// plainRead is a reader that is written apart from the program. It returns how many bytes names have, or which error there is.
func plainRead(s string) (int, api.Errno) {
	next, e := plainNum(s, 0)
	if e != api.OK {
		return 0, e
	}
	count, e := plainNum(s, 8)
	if e != api.OK {
		return 0, e
	}
	if next == 0 || next > most || count > 16 {
		return 0, api.ErrForm
	}
	var list []string
	ids := map[int]bool{}
	for i := range count {
		at := 16 + 40*i
		if len(s) < at+32 {
			return 0, api.ErrEnd
		}
		id, e := plainNum(s, at+32)
		if e != api.OK {
			return 0, e
		}
		l := plainBytes.FindStringSubmatch(s[at : at+32])
		if l == nil || !plainCheck(l[1]) || id == 0 || id >= next || ids[id] {
			return 0, api.ErrForm
		}
		ids[id] = true
		list = append(list, l[1])
		if !slices.IsSorted(list) || len(slices.Compact(slices.Clone(list))) != len(list) {
			return 0, api.ErrForm
		}
	}
	return 16 + 40*count, api.OK
}

// want compares results.
func want[T comparable](t *testing.T, what string, got, wanted T) {
	t.Helper()
	if got != wanted {
		t.Errorf("%s: got %v, want %v", what, got, wanted)
	}
}

// wantID compares what a call returned, as number and error.
func wantID(t *testing.T, what string, id int, e api.Errno, wantedID int, wanted api.Errno) {
	t.Helper()
	if id != wantedID || e != wanted {
		t.Errorf("%s: got %d, error %d, want %d, error %d", what, id, e, wantedID, wanted)
	}
}

func wantList(t *testing.T, n *names.Names, wanted ...string) {
	t.Helper()
	if got := n.List(); !slices.Equal(got, wanted) {
		t.Errorf("List: got %q, want %q", got, wanted)
	}
}

// wantOf checks that a name has a number, and the number that name.
func wantOf(t *testing.T, n *names.Names, name string, wanted int) {
	t.Helper()
	if id, is := n.Of(name); id != wanted || !is {
		t.Errorf("Of %q: got %d %v, want %d", name, id, is, wanted)
	}
	if got, is := n.Name(wanted); got != name || !is {
		t.Errorf("Name of %d: got %q %v, want %q", wanted, got, is, name)
	}
}

// wantNone checks that a name does not exist.
func wantNone(t *testing.T, n *names.Names, l ...string) {
	t.Helper()
	for _, name := range l {
		if id, is := n.Of(name); id != 0 || is {
			t.Errorf("Of %q: got %d %v", name, id, is)
		}
	}
}

// wantNoName checks that a number has no name.
func wantNoName(t *testing.T, n *names.Names, l ...int) {
	t.Helper()
	for _, id := range l {
		if name, is := n.Name(id); name != "" || is {
			t.Errorf("Name of %d: got %q %v", id, name, is)
		}
	}
}

// wantAlike compares everything that names tell.
func wantAlike(t *testing.T, n *names.Names, p *plain) {
	t.Helper()
	wantList(t, n, p.list()...)
	want(t, "Next", n.Next(), p.next())
	want(t, "Pack", n.Pack(), p.pack())
	for _, name := range append([]string{"", "a", "A", "a/b", "inbox"}, p.list()...) {
		id, is := n.Of(name)
		wanted, ok := p.of(name)
		if id != wanted || is != ok {
			t.Errorf("Of %q: got %d %v, want %d %v", name, id, is, wanted, ok)
		}
	}
	for id := max(-1, p.first-3); id < p.next()+3; id++ {
		name, is := n.Name(id)
		wanted, ok := p.name(id)
		if name != wanted || is != ok {
			t.Errorf("Name of %d: got %q %v, want %q %v", id, name, is, wanted, ok)
		}
	}
}

// wantRead checks that these are the bytes of names, whatever is before and behind them, and returns them.
func wantRead(t *testing.T, packed string) *names.Names {
	t.Helper()
	for _, behind := range []string{"", "\x00", "more of it", packed} {
		in := wire.Of(num(7) + packed + behind)
		in.Num()
		n, e := names.Read(in)
		if e != api.OK || n == nil {
			t.Fatalf("Read %.200q: error %d", packed, e)
		}
		want(t, "Pack again", n.Pack(), packed)
		want(t, "what is behind", in.Raw(len(behind)), behind)
		want(t, "End", in.End(), api.OK)
	}
	n, _ := names.Read(wire.Of(packed))
	return n
}

// wantNoRead checks that these bytes are none of names, and that their reader has failed.
func wantNoRead(t *testing.T, packed string, wanted api.Errno) {
	t.Helper()
	in := wire.Of(num(7) + packed)
	in.Num()
	n, e := names.Read(in)
	if e != wanted || n != nil {
		t.Errorf("Read %.200q: got %v, error %d, want error %d", packed, n, e, wanted)
	}
	want(t, "Err", in.Err(), wanted)
	want(t, "Left", in.Left(), 0)
	want(t, "End", in.End(), wanted)
}
