package model_test

import (
	"math"
	"slices"
	"strconv"
	"strings"
	"testing"

	"sealwax/api"
	"sealwax/box"
	"sealwax/model"
)

// of returns a model with these mailboxes, whose numbers are 1 and so on.
func of(t *testing.T, l ...string) *model.Model {
	t.Helper()
	m := model.New()
	for i, name := range l {
		wantDo(t, m, model.Op{Kind: model.Create, Box: name}, model.Answer{N: i + 1})
	}
	return m
}

// add appends mails with these texts, the first one with the UID first.
func add(t *testing.T, m *model.Model, name string, first int, texts ...string) {
	t.Helper()
	for i, text := range texts {
		wantDo(t, m, model.Op{Kind: model.Append, Box: name, Text: text}, model.Answer{N: first + i})
	}
}

// fill appends mails until the mailbox has 256 entries, without comparing states.
func fill(t *testing.T, m *model.Model, name string) {
	t.Helper()
	for {
		a := m.Do(model.Op{Kind: model.Append, Box: name, Text: "cat"})
		if a.Err == api.ErrFull {
			break
		}
		if a.Err != api.OK {
			t.Fatalf("error %d", a.Err)
		}
	}
	want(t, "entries", m.Do(model.Op{Kind: model.Status, Box: name}).N, 256)
}

// entries returns those of a mailbox, which exists.
func entries(t *testing.T, m *model.Model, name string) []box.Entry {
	t.Helper()
	id, _ := m.Names().Of(name)
	b, is := m.Box(id)
	if !is {
		t.Fatalf("there is no mailbox %s", name)
	}
	return b.List()
}

func wantEntries(t *testing.T, m *model.Model, name string, wanted ...box.Entry) {
	t.Helper()
	if got := entries(t, m, name); !slices.Equal(got, wanted) {
		t.Errorf("%s: got %v, want %v", name, got, wanted)
	}
}

func failed(e api.Errno) model.Answer { return model.Answer{Err: e} }

func hits(l ...model.Hit) model.Answer { return model.Answer{N: len(l), Hits: l} }

func TestExample(t *testing.T) {
	m := model.New()
	wantDo(t, m, model.Op{Kind: model.Create, Box: "a"}, model.Answer{N: 1})
	wantDo(t, m, model.Op{Kind: model.Append, Box: "a", Text: "two cats"}, model.Answer{N: 1})
	wantDo(t, m, model.Op{Kind: model.Search, Words: []string{"cats"}}, hits(model.Hit{Box: "a", UID: 1}))
}

func TestConstants(t *testing.T) {
	got := []int{model.Create, model.Delete, model.Rename, model.List, model.Status, model.Append, model.Fetch, model.Copy, model.Move, model.Flag, model.Expunge, model.Search, model.Compact}
	wantNumbers(t, "kinds", got, 1, 2, 3, 4, 5, 6, 7, 8, 9, 10, 11, 12, 13)
}

func TestNew(t *testing.T) {
	m := model.New()
	wantAlike(t, m, newPlain())
	wantNumbers(t, "Mails", m.Mails())
	want(t, "Next", m.Next(), 1)
	want(t, "next number", m.Names().Next(), 1)
	for _, id := range []int{0, 1, -1, math.MaxInt, math.MinInt} {
		b, is := m.Box(id)
		want(t, "Box", is || b != nil, false)
		text, is := m.Mail(id)
		want(t, "Mail", is || text != "", false)
	}
	for kind := model.Delete; kind <= model.Search; kind++ {
		wanted := failed(api.ErrName)
		if kind == model.List {
			wanted = model.Answer{}
		}
		for _, name := range []string{"in", "x"} {
			wantDo(t, m, model.Op{Kind: kind, Box: name, To: name, UID: 1, Words: []string{"cat"}}, wanted)
		}
	}
	wantDo(t, m, model.Op{Kind: model.Search, Words: []string{"cat"}}, model.Answer{})
	wantDo(t, m, model.Op{Kind: model.Compact}, model.Answer{})
	want(t, "another one", model.New() == m, false)
}

// TestOtherKinds: there are 13.
func TestOtherKinds(t *testing.T) {
	m := of(t, "in")
	add(t, m, "in", 1, "cat")
	for _, kind := range []int{0, -1, -13, 14, 15, 16, 26, 1 << 32, math.MaxInt, math.MinInt} {
		wantDo(t, m, model.Op{Kind: kind}, failed(api.ErrArg))
		wantDo(t, m, model.Op{Kind: kind, Box: "in", To: "x", Text: "x", UID: 1, Words: []string{"cat"}}, failed(api.ErrArg))
		wantDo(t, m, model.Op{Kind: kind, Box: "none", UID: 9}, failed(api.ErrArg))
	}
}

func TestCreate(t *testing.T) {
	m := of(t, "in", "old")
	for _, name := range []string{"", "/", "a//b", "a b", strings.Repeat("a", 33), "caf\u00e9"} {
		wantDo(t, m, model.Op{Kind: model.Create, Box: name, To: "fine"}, failed(api.ErrArg))
	}
	wantDo(t, m, model.Op{Kind: model.Create, Box: "in", To: "fine"}, failed(api.ErrThere))
	for i := range 14 {
		wantDo(t, m, model.Op{Kind: model.Create, Box: strings.Repeat("x", 19+i)}, model.Answer{N: 3 + i})
	}
	wantDo(t, m, model.Op{Kind: model.Create, Box: "more"}, failed(api.ErrFull))
	wantDo(t, m, model.Op{Kind: model.Create, Box: "in"}, failed(api.ErrThere))
	wantDo(t, m, model.Op{Kind: model.Create, Box: "a b"}, failed(api.ErrArg))
	wantDo(t, m, model.Op{Kind: model.Delete, Box: "in"}, model.Answer{N: 1})
	wantDo(t, m, model.Op{Kind: model.Create, Box: "in"}, model.Answer{N: 17})
	b, is := m.Box(17)
	if !is {
		t.Fatal("there is no mailbox 17")
	}
	want(t, "Validity", b.Validity(), 17)
	want(t, "next UID", b.Next(), 1)
	b, is = m.Box(1)
	want(t, "Box 1", is || b != nil, false)
}

// TestDelete: a mail that has an entry elsewhere remains (P19.3).
func TestDelete(t *testing.T) {
	m := of(t, "in", "old")
	add(t, m, "in", 1, "one", "two", "three")
	wantDo(t, m, model.Op{Kind: model.Copy, Box: "in", To: "old", UID: 2}, model.Answer{N: 1})
	wantDo(t, m, model.Op{Kind: model.Delete, Box: "none"}, failed(api.ErrName))
	wantDo(t, m, model.Op{Kind: model.Delete, Box: ""}, failed(api.ErrName))
	wantDo(t, m, model.Op{Kind: model.Delete, Box: "a//b"}, failed(api.ErrName))
	wantMails(t, m, map[int]string{1: "one", 2: "two", 3: "three"})
	wantDo(t, m, model.Op{Kind: model.Delete, Box: "in", To: "old"}, model.Answer{N: 1})
	wantDo(t, m, model.Op{Kind: model.List}, model.Answer{Names: []string{"old"}})
	wantMails(t, m, map[int]string{2: "two"})
	wantDo(t, m, model.Op{Kind: model.Delete, Box: "in"}, failed(api.ErrName))
	wantDo(t, m, model.Op{Kind: model.Delete, Box: "old"}, model.Answer{N: 2})
	wantMails(t, m, nil)
	want(t, "Next", m.Next(), 4)
	wantDo(t, m, model.Op{Kind: model.Create, Box: "in"}, model.Answer{N: 3})
	wantEntries(t, m, "in")
	add(t, m, "in", 1, "four")
	wantMails(t, m, map[int]string{4: "four"})
}

// TestRename: the number and the entries remain; ErrName comes before ErrArg, and that before ErrThere.
func TestRename(t *testing.T) {
	m := of(t, "in", "old")
	add(t, m, "in", 1, "cat")
	for _, to := range []string{"", "a b", "in", "old", "none", "new"} {
		wantDo(t, m, model.Op{Kind: model.Rename, Box: "none", To: to}, failed(api.ErrName))
		wantDo(t, m, model.Op{Kind: model.Rename, Box: "", To: to}, failed(api.ErrName))
	}
	for _, to := range []string{"", "a b", "/", strings.Repeat("a", 33)} {
		wantDo(t, m, model.Op{Kind: model.Rename, Box: "in", To: to}, failed(api.ErrArg))
	}
	wantDo(t, m, model.Op{Kind: model.Rename, Box: "in", To: "old"}, failed(api.ErrThere))
	wantDo(t, m, model.Op{Kind: model.Rename, Box: "in", To: "in"}, failed(api.ErrThere))
	wantDo(t, m, model.Op{Kind: model.Rename, Box: "in", To: "a/new"}, model.Answer{N: 1})
	wantDo(t, m, model.Op{Kind: model.List}, model.Answer{Names: []string{"a/new", "old"}})
	wantDo(t, m, model.Op{Kind: model.Status, Box: "a/new"}, model.Answer{N: 1, Text: "1 2 1"})
	wantDo(t, m, model.Op{Kind: model.Status, Box: "in"}, failed(api.ErrName))
	wantDo(t, m, model.Op{Kind: model.Rename, Box: "old", To: "in"}, model.Answer{N: 2})
	wantEntries(t, m, "in")
	wantEntries(t, m, "a/new", box.Entry{UID: 1, Mail: 1})
	wantDo(t, m, model.Op{Kind: model.Search, Words: []string{"cat"}}, hits(model.Hit{Box: "a/new", UID: 1}))
	wantMails(t, m, map[int]string{1: "cat"})
	want(t, "next number", m.Names().Next(), 3)
}

// TestList: names ascend byte by byte; N is 0.
func TestList(t *testing.T) {
	m := of(t, "b", "a/b", "a", "B", "a.b", "_", "9", "-")
	wantDo(t, m, model.Op{Kind: model.List}, model.Answer{Names: []string{"-", "9", "B", "_", "a", "a.b", "a/b", "b"}})
	wantDo(t, m, model.Op{Kind: model.List, Box: "none", UID: -1, Flags: 99}, model.Answer{Names: []string{"-", "9", "B", "_", "a", "a.b", "a/b", "b"}})
}

func TestStatus(t *testing.T) {
	m := of(t, "old", "in")
	wantDo(t, m, model.Op{Kind: model.Status, Box: "in"}, model.Answer{Text: "2 1 0"})
	for flags := range 32 {
		wantDo(t, m, model.Op{Kind: model.Append, Box: "in", Text: "x", Flags: flags}, model.Answer{N: 1 + flags})
	}
	wantDo(t, m, model.Op{Kind: model.Status, Box: "in"}, model.Answer{N: 32, Text: "2 33 16"})
	wantDo(t, m, model.Op{Kind: model.Move, Box: "in", To: "old", UID: 2}, model.Answer{N: 1})
	wantDo(t, m, model.Op{Kind: model.Status, Box: "in"}, model.Answer{N: 31, Text: "2 33 16"})
	wantDo(t, m, model.Op{Kind: model.Flag, Box: "in", UID: 1, Flags: box.Seen}, model.Answer{N: 1})
	wantDo(t, m, model.Op{Kind: model.Status, Box: "in"}, model.Answer{N: 31, Text: "2 33 15"})
	wantDo(t, m, model.Op{Kind: model.Status, Box: "old"}, model.Answer{N: 1, Text: "1 2 0"})
	for _, name := range []string{"", "none", "a b", "IN", "in "} {
		wantDo(t, m, model.Op{Kind: model.Status, Box: name}, failed(api.ErrName))
	}
}

// TestAppend: texts of 0 to 4096 bytes, any ones, and each sum of flags.
func TestAppend(t *testing.T) {
	m := of(t, "in", "old")
	texts := map[int]string{}
	for i, text := range []string{"", "\x00", "cat", "\xff\xfe\n", "caf\u00e9", strings.Repeat("x", 4095), strings.Repeat("\x00", 4096), strings.Repeat("y ", 2048)} {
		texts[i+1] = text
		wantDo(t, m, model.Op{Kind: model.Append, Box: "in", Text: text, Flags: 4 * i}, model.Answer{N: i + 1})
		wantDo(t, m, model.Op{Kind: model.Fetch, Box: "in", UID: i + 1}, model.Answer{N: 4 * i, Text: text})
		want(t, "Next", m.Next(), i+2)
	}
	wantMails(t, m, texts)
	for flags := range 32 {
		wantDo(t, m, model.Op{Kind: model.Append, Box: "old", Text: "cat", Flags: flags, Off: 31, UID: 9}, model.Answer{N: flags + 1})
		wantDo(t, m, model.Op{Kind: model.Fetch, Box: "old", UID: flags + 1}, model.Answer{N: flags, Text: "cat"})
	}
	want(t, "the same text is another mail", len(m.Mails()), 8+32)
	want(t, "Next", m.Next(), 41)
}

// TestAppendErrors: ErrName, ErrBig, ErrArg, ErrFull, in this order. With an error no number of a mail is used.
func TestAppendErrors(t *testing.T) {
	m := of(t, "in", "full")
	fill(t, m, "full")
	next := m.Next()
	for _, size := range []int{0, 1, 4096, 4097, 5000, 1 << 20} {
		for _, flags := range []int{0, 31, 32, 33, 64, -1, math.MaxInt, math.MinInt} {
			for _, name := range []string{"in", "full", "none", "", "a b"} {
				o := model.Op{Kind: model.Append, Box: name, Text: strings.Repeat("x", size), Flags: flags}
				switch {
				case name != "in" && name != "full":
					wantDo(t, m, o, failed(api.ErrName))
				case size > 4096:
					wantDo(t, m, o, failed(api.ErrBig))
				case flags < 0 || flags > 31:
					wantDo(t, m, o, failed(api.ErrArg))
				case name == "full":
					wantDo(t, m, o, failed(api.ErrFull))
				}
			}
		}
	}
	want(t, "Next", m.Next(), next)
	add(t, m, "in", 1, "cat")
	wantEntries(t, m, "in", box.Entry{UID: 1, Mail: next})
	want(t, "Next", m.Next(), next+1)
}

func TestFetch(t *testing.T) {
	m := of(t, "in", "old")
	add(t, m, "in", 1, "one", "two", "three")
	wantDo(t, m, model.Op{Kind: model.Flag, Box: "in", UID: 3, Flags: 8}, model.Answer{N: 8})
	wantDo(t, m, model.Op{Kind: model.Expunge, Box: "in"}, hits(model.Hit{Box: "in", UID: 3, Flags: 8}))
	for _, uid := range []int{0, 3, 4, -1, math.MaxInt, math.MinInt} {
		wantDo(t, m, model.Op{Kind: model.Fetch, Box: "in", UID: uid}, failed(api.ErrNone))
		wantDo(t, m, model.Op{Kind: model.Fetch, Box: "none", UID: uid}, failed(api.ErrName))
	}
	wantDo(t, m, model.Op{Kind: model.Fetch, Box: "old", UID: 1}, failed(api.ErrNone))
	wantDo(t, m, model.Op{Kind: model.Fetch, Box: "none", UID: 1}, failed(api.ErrName))
	wantDo(t, m, model.Op{Kind: model.Fetch, Box: "in", UID: 2, Flags: 99, To: "x"}, model.Answer{Text: "two"})
}

// TestCopy: the new entry is for the same mail, and has the flags of the old one, which remains.
func TestCopy(t *testing.T) {
	m := of(t, "in", "old")
	add(t, m, "old", 1, "zero")
	wantDo(t, m, model.Op{Kind: model.Append, Box: "in", Text: "cat", Flags: 21}, model.Answer{N: 1})
	wantDo(t, m, model.Op{Kind: model.Copy, Box: "in", To: "old", UID: 1, Flags: 99, Off: 99}, model.Answer{N: 2})
	wantDo(t, m, model.Op{Kind: model.Copy, Box: "in", To: "in", UID: 1}, model.Answer{N: 2})
	wantEntries(t, m, "in", box.Entry{UID: 1, Flags: 21, Mail: 2}, box.Entry{UID: 2, Flags: 21, Mail: 2})
	wantEntries(t, m, "old", box.Entry{UID: 1, Mail: 1}, box.Entry{UID: 2, Flags: 21, Mail: 2})
	wantMails(t, m, map[int]string{1: "zero", 2: "cat"})
	want(t, "Next", m.Next(), 3)
	wantDo(t, m, model.Op{Kind: model.Flag, Box: "in", UID: 1, Off: 31}, model.Answer{})
	wantEntries(t, m, "in", box.Entry{UID: 1, Mail: 2}, box.Entry{UID: 2, Flags: 21, Mail: 2})
	wantEntries(t, m, "old", box.Entry{UID: 1, Mail: 1}, box.Entry{UID: 2, Flags: 21, Mail: 2})
}

// TestMove: the old entry is removed, also if To is the same mailbox.
func TestMove(t *testing.T) {
	m := of(t, "in", "old")
	add(t, m, "in", 1, "one", "two")
	wantDo(t, m, model.Op{Kind: model.Flag, Box: "in", UID: 1, Flags: 9}, model.Answer{N: 9})
	wantDo(t, m, model.Op{Kind: model.Move, Box: "in", To: "in", UID: 1}, model.Answer{N: 3})
	wantEntries(t, m, "in", box.Entry{UID: 2, Mail: 2}, box.Entry{UID: 3, Flags: 9, Mail: 1})
	wantDo(t, m, model.Op{Kind: model.Move, Box: "in", To: "old", UID: 3}, model.Answer{N: 1})
	wantEntries(t, m, "in", box.Entry{UID: 2, Mail: 2})
	wantEntries(t, m, "old", box.Entry{UID: 1, Flags: 9, Mail: 1})
	wantMails(t, m, map[int]string{1: "one", 2: "two"})
	wantDo(t, m, model.Op{Kind: model.Move, Box: "in", To: "old", UID: 3}, failed(api.ErrNone))
	want(t, "Next", m.Next(), 3)
}

// TestCopyErrors: of Copy and Move, ErrName, ErrNone, ErrFull, in this order. A full mailbox has no room for a mail that is moved within it.
func TestCopyErrors(t *testing.T) {
	m := of(t, "in", "full", "empty")
	add(t, m, "in", 1, "one")
	fill(t, m, "full")
	for _, kind := range []int{model.Copy, model.Move} {
		for _, from := range []string{"none", "", "a b"} {
			for _, to := range []string{"in", "full", "empty", "none", ""} {
				for _, uid := range []int{1, 9} {
					wantDo(t, m, model.Op{Kind: kind, Box: from, To: to, UID: uid}, failed(api.ErrName))
					wantDo(t, m, model.Op{Kind: kind, Box: to, To: from, UID: uid}, failed(api.ErrName))
				}
			}
		}
		for _, to := range []string{"in", "full", "empty"} {
			for _, uid := range []int{0, 2, -1, 257, math.MaxInt, math.MinInt} {
				wantDo(t, m, model.Op{Kind: kind, Box: "in", To: to, UID: uid}, failed(api.ErrNone))
				wantDo(t, m, model.Op{Kind: kind, Box: "empty", To: to, UID: uid}, failed(api.ErrNone))
			}
		}
		wantDo(t, m, model.Op{Kind: kind, Box: "in", To: "full", UID: 1}, failed(api.ErrFull))
		wantDo(t, m, model.Op{Kind: kind, Box: "full", To: "full", UID: 256}, failed(api.ErrFull))
	}
	wantDo(t, m, model.Op{Kind: model.Move, Box: "full", To: "empty", UID: 1}, model.Answer{N: 1})
	wantDo(t, m, model.Op{Kind: model.Move, Box: "full", To: "full", UID: 2}, model.Answer{N: 257})
	wantDo(t, m, model.Op{Kind: model.Copy, Box: "in", To: "full", UID: 1}, model.Answer{N: 258})
	wantDo(t, m, model.Op{Kind: model.Move, Box: "full", To: "full", UID: 3}, failed(api.ErrFull))
}

// TestFlag: those of Off are cleared, then those of Flags are set.
func TestFlag(t *testing.T) {
	m := of(t, "in", "old")
	add(t, m, "in", 1, "one", "two")
	for _, k := range [][3]int{{5, 0, 5}, {2, 1, 6}, {1, 1, 7}, {0, 4, 3}, {31, 31, 31}, {0, 31, 0}, {0, 0, 0}, {16, 15, 16}} {
		wantDo(t, m, model.Op{Kind: model.Flag, Box: "in", UID: 1, Flags: k[0], Off: k[1]}, model.Answer{N: k[2]})
		wantEntries(t, m, "in", box.Entry{UID: 1, Flags: k[2], Mail: 1}, box.Entry{UID: 2, Mail: 2})
	}
	for _, wrong := range []int{32, 33, 64, -1, math.MaxInt, math.MinInt} {
		wantDo(t, m, model.Op{Kind: model.Flag, Box: "in", UID: 1, Flags: wrong}, failed(api.ErrArg))
		wantDo(t, m, model.Op{Kind: model.Flag, Box: "in", UID: 1, Off: wrong}, failed(api.ErrArg))
		wantDo(t, m, model.Op{Kind: model.Flag, Box: "in", UID: 3, Off: wrong}, failed(api.ErrNone))
		wantDo(t, m, model.Op{Kind: model.Flag, Box: "old", UID: 1, Flags: wrong}, failed(api.ErrNone))
		wantDo(t, m, model.Op{Kind: model.Flag, Box: "none", UID: 1, Flags: wrong}, failed(api.ErrName))
		wantDo(t, m, model.Op{Kind: model.Flag, Box: "none", UID: wrong}, failed(api.ErrName))
	}
}

// TestExpunge: all entries with Deleted are removed, and their mails with them if they have no other entry (P19.3).
func TestExpunge(t *testing.T) {
	m := of(t, "in", "old")
	for i, flags := range []int{0, 8, 31, 23, 12, 7} {
		wantDo(t, m, model.Op{Kind: model.Append, Box: "in", Text: strconv.Itoa(i + 1), Flags: flags}, model.Answer{N: i + 1})
	}
	wantDo(t, m, model.Op{Kind: model.Copy, Box: "in", To: "old", UID: 3}, model.Answer{N: 1})
	wantDo(t, m, model.Op{Kind: model.Copy, Box: "in", To: "in", UID: 5}, model.Answer{N: 7})
	wantDo(t, m, model.Op{Kind: model.Flag, Box: "in", UID: 7, Off: 8}, model.Answer{N: 4})
	wantDo(t, m, model.Op{Kind: model.Expunge, Box: "none"}, failed(api.ErrName))
	wantDo(t, m, model.Op{Kind: model.Expunge, Box: ""}, failed(api.ErrName))
	wantDo(t, m, model.Op{Kind: model.Expunge, Box: "in"}, hits(model.Hit{Box: "in", UID: 2, Flags: 8}, model.Hit{Box: "in", UID: 3, Flags: 31}, model.Hit{Box: "in", UID: 5, Flags: 12}))
	wantEntries(t, m, "in", box.Entry{UID: 1, Mail: 1}, box.Entry{UID: 4, Flags: 23, Mail: 4}, box.Entry{UID: 6, Flags: 7, Mail: 6}, box.Entry{UID: 7, Flags: 4, Mail: 5})
	wantEntries(t, m, "old", box.Entry{UID: 1, Flags: 31, Mail: 3})
	wantMails(t, m, map[int]string{1: "1", 3: "3", 4: "4", 5: "5", 6: "6"})
	wantDo(t, m, model.Op{Kind: model.Expunge, Box: "in"}, model.Answer{})
	wantDo(t, m, model.Op{Kind: model.Expunge, Box: "old"}, hits(model.Hit{Box: "old", UID: 1, Flags: 31}))
	wantMails(t, m, map[int]string{1: "1", 4: "4", 5: "5", 6: "6"})
	want(t, "Next", m.Next(), 7)
}

// TestEntriesOfOneMail: it exists until the last of its entries is removed, however that happens (P19.3).
func TestEntriesOfOneMail(t *testing.T) {
	m := of(t, "a", "b", "c")
	add(t, m, "a", 1, "cat")
	wantDo(t, m, model.Op{Kind: model.Copy, Box: "a", To: "b", UID: 1}, model.Answer{N: 1})
	wantDo(t, m, model.Op{Kind: model.Copy, Box: "b", To: "c", UID: 1}, model.Answer{N: 1})
	wantDo(t, m, model.Op{Kind: model.Delete, Box: "a"}, model.Answer{N: 1})
	wantMails(t, m, map[int]string{1: "cat"})
	wantDo(t, m, model.Op{Kind: model.Flag, Box: "b", UID: 1, Flags: box.Deleted}, model.Answer{N: 8})
	wantDo(t, m, model.Op{Kind: model.Expunge, Box: "b"}, hits(model.Hit{Box: "b", UID: 1, Flags: 8}))
	wantMails(t, m, map[int]string{1: "cat"})
	wantDo(t, m, model.Op{Kind: model.Move, Box: "c", To: "b", UID: 1}, model.Answer{N: 2})
	wantDo(t, m, model.Op{Kind: model.Delete, Box: "c"}, model.Answer{N: 3})
	wantDo(t, m, model.Op{Kind: model.Fetch, Box: "b", UID: 2}, model.Answer{Text: "cat"})
	wantDo(t, m, model.Op{Kind: model.Delete, Box: "b"}, model.Answer{N: 2})
	wantMails(t, m, nil)
	text, is := m.Mail(1)
	want(t, "Mail", is || text != "", false)
}

// TestCompact: it does nothing.
func TestCompact(t *testing.T) {
	m := of(t, "in")
	add(t, m, "in", 1, "cat")
	wantDo(t, m, model.Op{Kind: model.Compact, Box: "none", UID: 9, Flags: 99}, model.Answer{})
	wantMails(t, m, map[int]string{1: "cat"})
}

// TestClone: what happens to one does not happen to the other.
func TestClone(t *testing.T) {
	m := of(t, "in", "old")
	add(t, m, "in", 1, "one", "two")
	before := state(m)
	for _, o := range []model.Op{
		{Kind: model.Create, Box: "new"},
		{Kind: model.Delete, Box: "in"},
		{Kind: model.Rename, Box: "in", To: "new"},
		{Kind: model.Append, Box: "in", Text: "three"},
		{Kind: model.Append, Box: "old", Text: "three"},
		{Kind: model.Copy, Box: "in", To: "old", UID: 1},
		{Kind: model.Move, Box: "in", To: "old", UID: 1},
		{Kind: model.Flag, Box: "in", UID: 2, Flags: 8},
	} {
		c := m.Clone()
		want(t, "the copy", state(c), before)
		want(t, "error", c.Do(o).Err, api.OK)
		want(t, "the original", state(m), before)
		want(t, "the copy has changed", state(c) != before, true)
		c, d := m.Clone(), m.Clone()
		want(t, "error", c.Do(o).Err, api.OK)
		want(t, "another copy", state(d), before)
	}
	c := m.Clone()
	wantDo(t, m, model.Op{Kind: model.Delete, Box: "in"}, model.Answer{N: 1})
	wantDo(t, m, model.Op{Kind: model.Create, Box: "x"}, model.Answer{N: 3})
	add(t, m, "x", 1, "three")
	want(t, "the copy", state(c), before)
}

// TestMemory: results are new memory, and the words are not changed.
func TestMemory(t *testing.T) {
	m := of(t, "in", "old")
	add(t, m, "in", 1, "a cat", "a cat")
	before := state(m)
	asked := []string{"cat", "a", "cat", "behind"}
	search := model.Op{Kind: model.Search, Words: asked[:3]}
	found := m.Do(search)
	want(t, "hits", len(found.Hits), 2)
	found.Hits[0] = model.Hit{}
	want(t, "the words", strings.Join(asked, " "), "cat a cat behind")
	asked[0], asked[1] = "dog", "dog"
	want(t, "hits", len(m.Do(model.Op{Kind: model.Search, Words: []string{"cat"}}).Hits), 2)
	listed := m.Do(model.Op{Kind: model.List})
	listed.Names[0] = "changed"
	l := m.Mails()
	l[0] = 9
	m.Names().Create("new")
	b, _ := m.Box(1)
	b.Remove(1)
	b.Add(7, 7)
	want(t, "the model", state(m), before)
	wantDo(t, m, model.Op{Kind: model.List}, model.Answer{Names: []string{"in", "old"}})
	wantDo(t, m, model.Op{Kind: model.Search, Words: []string{"cat", "a"}}, hits(model.Hit{Box: "in", UID: 1}, model.Hit{Box: "in", UID: 2}))
	n, held := m.Names(), m.Mails()
	wantDo(t, m, model.Op{Kind: model.Delete, Box: "in"}, model.Answer{N: 1})
	want(t, "names before", strings.Join(n.List(), " "), "in old")
	wantNumbers(t, "mails before", held, 1, 2)
}
