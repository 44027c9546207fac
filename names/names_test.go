package names_test

import (
	"math"
	"slices"
	"strings"
	"testing"

	"sealwax/api"
	"sealwax/names"
	"sealwax/wire"
)

// of returns names that were created in this order.
func of(t *testing.T, l ...string) *names.Names {
	t.Helper()
	n := names.New()
	for i, name := range l {
		id, e := n.Create(name)
		wantID(t, name, id, e, i+1, api.OK)
	}
	return n
}

// letters returns the first n of many names, which ascend.
func letters(n int) []string {
	var out []string
	for i := range n {
		out = append(out, string([]byte{'a' + byte(i/26), 'a' + byte(i%26)}))
	}
	return out
}

// wantCreate checks the result of Create, and that nothing has changed if it is an error.
func wantCreate(t *testing.T, n *names.Names, name string, wantedID int, wanted api.Errno) {
	t.Helper()
	before := n.Pack()
	id, e := n.Create(name)
	wantID(t, "Create "+name, id, e, wantedID, wanted)
	want(t, "changed", n.Pack() != before, wanted == api.OK)
}

func wantDelete(t *testing.T, n *names.Names, name string, wantedID int, wanted api.Errno) {
	t.Helper()
	before := n.Pack()
	id, e := n.Delete(name)
	wantID(t, "Delete "+name, id, e, wantedID, wanted)
	want(t, "changed", n.Pack() != before, wanted == api.OK)
}

func wantRename(t *testing.T, n *names.Names, name, to string, wantedID int, wanted api.Errno) {
	t.Helper()
	before := n.Pack()
	id, e := n.Rename(name, to)
	wantID(t, "Rename "+name+" "+to, id, e, wantedID, wanted)
	want(t, "changed", n.Pack() != before, wanted == api.OK)
}

func TestExample(t *testing.T) {
	n := names.New()
	wantCreate(t, n, "a", 1, api.OK)
	wantRename(t, n, "a", "b", 1, api.OK)
	wantCreate(t, n, "a", 2, api.OK)
	wantOf(t, n, "b", 1)
	wantOf(t, n, "a", 2)
	wantList(t, n, "a", "b")
}

func TestNew(t *testing.T) {
	n := names.New()
	wantList(t, n)
	want(t, "Next", n.Next(), 1)
	want(t, "Pack", n.Pack(), num(1)+num(0))
	wantNone(t, n, "", "a", "INBOX")
	wantNoName(t, n, 0, 1, 2, -1, math.MinInt, math.MaxInt)
	wantDelete(t, n, "a", 0, api.ErrName)
	wantRename(t, n, "a", "b", 0, api.ErrName)
	want(t, "another one", names.New() == n, false)
}

// TestCheckEachByte: which bytes names have, alone, between others and at the ends.
func TestCheckEachByte(t *testing.T) {
	const parts = "abcdefghijklmnopqrstuvwxyzABCDEFGHIJKLMNOPQRSTUVWXYZ0123456789._-"
	for i := range 256 {
		b := string([]byte{byte(i)})
		part := strings.Contains(parts, b)
		for _, name := range []string{b, b + "a", "a" + b, b + b, "a" + b + b + "a", "a/" + b, b + "/a", strings.Repeat(b, 32)} {
			want(t, "Check "+name, names.Check(name), part)
		}
		want(t, "Check a"+b+"a", names.Check("a"+b+"a"), part || b == "/")
	}
}

// TestCheckShort: each text of two bytes, and of five of a few ones.
func TestCheckShort(t *testing.T) {
	for i := range 256 * 256 {
		name := string([]byte{byte(i >> 8), byte(i)})
		if names.Check(name) != plainCheck(name) {
			t.Fatalf("Check %q: %v", name, names.Check(name))
		}
	}
	const few = "aZ9/-.\x00 "
	for i := range 8 * 8 * 8 * 8 * 8 {
		name := string([]byte{few[i>>12], few[i>>9&7], few[i>>6&7], few[i>>3&7], few[i&7]})
		if names.Check(name) != plainCheck(name) {
			t.Fatalf("Check %q: %v", name, names.Check(name))
		}
	}
}

func TestCheckLength(t *testing.T) {
	for n := range 300 {
		for _, s := range []string{"a", "a/b", "Z.-_", "9"} {
			name := strings.Repeat(s, 300)[:n]
			slash := strings.HasSuffix(name, "/")
			want(t, "Check "+name, names.Check(name), n >= 1 && n <= 32 && !slash)
		}
	}
	for _, name := range []string{"", "/", "//", "///", "/a", "a/", "a//b", "a///b", "/a/b", "a/b/", "a b", " a", "a ", "a\x00", "\x00", "caf\u00e9", "\xff", "a\nb", "a\n", "a\\b", "a:b", "\u2215a", strings.Repeat("a", 33), strings.Repeat("a/", 16), "/" + strings.Repeat("a", 31), strings.Repeat("a", 1<<20), strings.Repeat("/", 1<<20)} {
		want(t, "Check "+name[:min(len(name), 40)], names.Check(name), false)
	}
	for _, name := range []string{"a", "INBOX", "a/b", "a/b/c", ".", "..", "-", "_", "./.", "a.b-c_d/E.9", "../a", strings.Repeat("a/", 15) + "bb", strings.Repeat("a", 30) + "/b", "0"} {
		want(t, "Check "+name, names.Check(name), true)
	}
}

// TestCreate: each name once, with ascending numbers.
func TestCreate(t *testing.T) {
	n := of(t, "INBOX", "a/b", "inbox", "a", "-", strings.Repeat("z", 32))
	wantList(t, n, "-", "INBOX", "a", "a/b", "inbox", strings.Repeat("z", 32))
	want(t, "Next", n.Next(), 7)
	for i, name := range []string{"INBOX", "a/b", "inbox", "a", "-", strings.Repeat("z", 32)} {
		wantOf(t, n, name, i+1)
		wantCreate(t, n, name, 0, api.ErrThere)
	}
	for _, name := range []string{"", "/", "a//b", "a/", "/a", "a b", strings.Repeat("z", 33), "a\x00", "caf\u00e9"} {
		wantCreate(t, n, name, 0, api.ErrArg)
		wantNone(t, n, name)
	}
	wantNone(t, n, "Inbox", "b", "a/", "a/b/c", "", "a\x00", strings.Repeat("z", 31))
	wantNoName(t, n, -1, 0, 7, 8, math.MaxInt, math.MinInt)
	wantCreate(t, n, "b", 7, api.OK)
}

// TestListAscends: byte by byte.
func TestListAscends(t *testing.T) {
	l := []string{"-", ".", "0", "9", "A", "A-", "A/A", "A0", "AA", "Z", "_", "a", "a-a", "a.a", "a/a", "a0", "aA", "a_", "aa", "b", "z"}
	for i := range l {
		part := slices.Concat(l[i:], l[:i])[:16]
		n := of(t, part...)
		slices.Sort(part)
		wantList(t, n, part...)
		slices.Reverse(part)
		n = of(t, part...)
		slices.Reverse(part)
		wantList(t, n, part...)
	}
}

// TestFull: there are 16 at most, whatever is removed, and the other errors come first.
func TestFull(t *testing.T) {
	l := letters(20)
	n := of(t, l[:15]...)
	wantCreate(t, n, l[15], 16, api.OK)
	wantCreate(t, n, l[16], 0, api.ErrFull)
	wantCreate(t, n, l[16], 0, api.ErrFull)
	wantCreate(t, n, l[15], 0, api.ErrThere)
	wantCreate(t, n, l[0], 0, api.ErrThere)
	wantCreate(t, n, "", 0, api.ErrArg)
	wantCreate(t, n, "a//b", 0, api.ErrArg)
	want(t, "Next", n.Next(), 17)
	wantList(t, n, l[:16]...)
	wantRename(t, n, l[3], l[16], 4, api.OK)
	wantCreate(t, n, l[3], 0, api.ErrFull)
	wantDelete(t, n, l[0], 1, api.OK)
	wantCreate(t, n, l[0], 17, api.OK)
	wantCreate(t, n, l[18], 0, api.ErrFull)
	wantDelete(t, n, l[16], 4, api.OK)
	wantDelete(t, n, l[1], 2, api.OK)
	wantCreate(t, n, l[18], 18, api.OK)
	wantCreate(t, n, l[19], 19, api.OK)
	wantCreate(t, n, l[1], 0, api.ErrFull)
}

// TestDelete: the name is free again, its number is not (P17.2).
func TestDelete(t *testing.T) {
	n := of(t, "a", "b", "c")
	wantDelete(t, n, "b", 2, api.OK)
	wantList(t, n, "a", "c")
	wantNone(t, n, "b")
	wantNoName(t, n, 2)
	want(t, "Next", n.Next(), 4)
	wantDelete(t, n, "b", 0, api.ErrName)
	for _, name := range []string{"", "B", "a/", "a//b", "d", "ab", "a\x00", strings.Repeat("a", 33)} {
		wantDelete(t, n, name, 0, api.ErrName)
	}
	wantCreate(t, n, "b", 4, api.OK)
	wantDelete(t, n, "c", 3, api.OK)
	wantDelete(t, n, "a", 1, api.OK)
	wantDelete(t, n, "b", 4, api.OK)
	wantList(t, n)
	want(t, "Next", n.Next(), 5)
	want(t, "Pack", n.Pack(), num(5)+num(0))
	wantCreate(t, n, "b", 5, api.OK)
}

// TestRename: the number remains, and so does the next one.
func TestRename(t *testing.T) {
	n := of(t, "a", "b", "c")
	wantRename(t, n, "b", "z/9", 2, api.OK)
	wantOf(t, n, "z/9", 2)
	wantNone(t, n, "b")
	wantList(t, n, "a", "c", "z/9")
	want(t, "Next", n.Next(), 4)
	wantRename(t, n, "a", "b", 1, api.OK)
	wantRename(t, n, "b", "a", 1, api.OK)
	wantRename(t, n, "c", "C", 3, api.OK)
	wantRename(t, n, "C", strings.Repeat("c", 32), 3, api.OK)
	wantOf(t, n, "a", 1)
	wantOf(t, n, strings.Repeat("c", 32), 3)
	wantRename(t, n, "z/9", strings.Repeat("c", 31), 2, api.OK)
	wantDelete(t, n, strings.Repeat("c", 31), 2, api.OK)
	wantCreate(t, n, "b", 4, api.OK)
	wantOf(t, n, "b", 4)
}

// TestRenameWrong: first it is asked whether the name exists, then whether the other one may be, then whether that exists.
func TestRenameWrong(t *testing.T) {
	n := of(t, "a", "b", "c")
	for _, name := range []string{"", "d", "A", "a/", "a//b", strings.Repeat("a", 33), "a\x00"} {
		for _, to := range []string{"", "a", "b", "d", "e", "a//b", name} {
			wantRename(t, n, name, to, 0, api.ErrName)
		}
	}
	for _, name := range []string{"a", "b", "c"} {
		for _, to := range []string{"", "/", "a/", "/a", "a//b", "a b", strings.Repeat("a", 33), "caf\u00e9", "a\x00"} {
			wantRename(t, n, name, to, 0, api.ErrArg)
		}
		for _, to := range []string{"a", "b", "c"} {
			wantRename(t, n, name, to, 0, api.ErrThere)
		}
	}
	wantList(t, n, "a", "b", "c")
	wantDelete(t, n, "b", 2, api.OK)
	wantRename(t, n, "b", "b", 0, api.ErrName)
	wantRename(t, n, "b", "d", 0, api.ErrName)
	wantRename(t, n, "a", "b", 1, api.OK)
}

// TestClone: what is done to one is not seen in the other.
func TestClone(t *testing.T) {
	n := of(t, "a", "b")
	packed := n.Pack()
	c := n.Clone()
	want(t, "Pack of the copy", c.Pack(), packed)
	wantCreate(t, c, "c", 3, api.OK)
	wantDelete(t, c, "a", 1, api.OK)
	wantRename(t, c, "b", "a", 2, api.OK)
	want(t, "Pack", n.Pack(), packed)
	wantOf(t, n, "a", 1)
	wantOf(t, n, "b", 2)
	wantNone(t, n, "c")
	changed := c.Pack()
	wantCreate(t, n, "d", 3, api.OK)
	wantDelete(t, n, "b", 2, api.OK)
	want(t, "Pack of the copy", c.Pack(), changed)
	empty := names.New()
	other := empty.Clone()
	wantCreate(t, other, "x", 1, api.OK)
	wantList(t, empty)
	wantCreate(t, empty, "y", 1, api.OK)
	wantList(t, other, "x")
}

// TestTellingChangesNothing: and its results are new memory.
func TestTellingChangesNothing(t *testing.T) {
	n := of(t, "b", "a", "c")
	packed := n.Pack()
	for range 3 {
		l, other := n.List(), n.List()
		clear(l)
		_ = append(l[:1], "x")
		if !slices.Equal(other, []string{"a", "b", "c"}) {
			t.Errorf("the other list is %q now", other)
		}
		n.Of("a")
		n.Of("d")
		n.Name(1)
		n.Name(9)
		n.Next()
		n.Clone()
		want(t, "Pack", n.Pack(), packed)
	}
}

// TestPack: the encoding, byte by byte.
func TestPack(t *testing.T) {
	n := of(t, "b", "a", strings.Repeat("a", 32), "a/b")
	wantDelete(t, n, "a", 2, api.OK)
	want(t, "Pack", n.Pack(), "\x00\x00\x00\x00\x00\x00\x00\x05"+"\x00\x00\x00\x00\x00\x00\x00\x03"+
		"a/b"+zeros(29)+zeros(7)+"\x04"+
		strings.Repeat("a", 32)+zeros(7)+"\x03"+
		"b"+zeros(31)+zeros(7)+"\x01")
	for k := range 17 {
		n := of(t, letters(k)...)
		want(t, "bytes", len(n.Pack()), 16+40*k)
		wantRead(t, n.Pack())
	}
}

// TestReadAgain: what was read goes on as what was packed, and is independent of it.
func TestReadAgain(t *testing.T) {
	n := of(t, "b", "a", "c/d")
	wantDelete(t, n, "a", 2, api.OK)
	packed := n.Pack()
	m, c := wantRead(t, packed), wantRead(t, packed)
	for _, o := range []*names.Names{m, n, m.Clone()} {
		wantList(t, o, "b", "c/d")
		wantOf(t, o, "b", 1)
		wantOf(t, o, "c/d", 3)
		wantNone(t, o, "a")
		wantNoName(t, o, 0, 2, 4)
		want(t, "Next", o.Next(), 4)
		wantCreate(t, o, "b", 0, api.ErrThere)
		wantCreate(t, o, "a", 4, api.OK)
		wantRename(t, o, "b", "e", 1, api.OK)
		wantDelete(t, o, "c/d", 3, api.OK)
		wantDelete(t, o, "a", 4, api.OK)
		wantCreate(t, o, "b", 5, api.OK)
		o.Delete("b")
		o.Rename("e", "b")
		o.Create("c/d")
		o.Delete("c/d")
		want(t, "Pack", o.Pack(), num(7)+num(1)+entry("b", 1))
		if o == m {
			m = wantRead(t, packed)
		}
	}
	want(t, "Pack of the other", c.Pack(), packed)
}

// TestSeveral: they are read one after the other, and what is behind them is left.
func TestSeveral(t *testing.T) {
	one, two, three := of(t, "a", "b"), names.New(), of(t, letters(16)...)
	in := wire.Of(one.Pack() + two.Pack() + three.Pack() + num(9))
	for _, n := range []*names.Names{one, two, three} {
		got, e := names.Read(in)
		if e != api.OK {
			t.Fatalf("error %d", e)
		}
		want(t, "Pack", got.Pack(), n.Pack())
	}
	want(t, "what is behind", in.Num(), 9)
	want(t, "End", in.End(), api.OK)
	n, e := names.Read(in)
	if n != nil || e != api.ErrEnd || in.Err() != api.ErrEnd {
		t.Errorf("nothing is left: got %v, error %d", n, e)
	}
}
