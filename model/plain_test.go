package model_test

import (
	"fmt"
	"regexp"
	"slices"
	"strings"
	"testing"

	"sealwax/api"
	"sealwax/box"
	"sealwax/model"
)

var (
	plainName     = regexp.MustCompile(`^[a-zA-Z0-9._-]+(/[a-zA-Z0-9._-]+)*$`)
	plainWord     = regexp.MustCompile(`^[a-z0-9]{1,16}$`)
	plainSequence = regexp.MustCompile(`[a-zA-Z0-9]+`)
)

// plain is a mail store that is written apart from the program: a list of mailboxes, in which each entry has its text itself.
type plain struct {
	boxes           []*plainBox
	nextBox, nextID int
}

type plainBox struct {
	name     string
	id, next int
	l        []plainEntry
}

type plainEntry struct {
	uid, flags, id int
	text           string
}

func newPlain() *plain { return &plain{nextBox: 1, nextID: 1} }

func (p *plain) clone() *plain {
	q := &plain{nextBox: p.nextBox, nextID: p.nextID}
	for _, b := range p.boxes {
		c := *b
		c.l = slices.Clone(b.l)
		q.boxes = append(q.boxes, &c)
	}
	return q
}

// sorted returns the mailboxes by name.
func (p *plain) sorted() []*plainBox {
	out := slices.Clone(p.boxes)
	slices.SortFunc(out, func(a, b *plainBox) int { return strings.Compare(a.name, b.name) })
	return out
}

func (p *plain) list() []string {
	var out []string
	for _, b := range p.sorted() {
		out = append(out, b.name)
	}
	return out
}

// mails returns the text of each mail for which there is an entry.
func (p *plain) mails() map[int]string {
	out := map[int]string{}
	for _, b := range p.boxes {
		for _, e := range b.l {
			out[e.id] = e.text
		}
	}
	return out
}

func (p *plain) box(name string) *plainBox {
	for _, b := range p.boxes {
		if b.name == name {
			return b
		}
	}
	return nil
}

func (b *plainBox) at(uid int) int {
	return slices.IndexFunc(b.l, func(e plainEntry) bool { return e.uid == uid })
}

func (b *plainBox) add(id, flags int, text string) int {
	b.l = append(b.l, plainEntry{uid: b.next, flags: flags, id: id, text: text})
	b.next++
	return b.next - 1
}

func (b *plainBox) unseen() int {
	n := 0
	for _, e := range b.l {
		n += 1 - e.flags%2
	}
	return n
}

func flagsFine(flags int) bool { return 0 <= flags && flags < 32 }

func nameFine(name string) bool { return len(name) <= 32 && plainName.MatchString(name) }

// plainWords returns the words of a text.
func plainWords(text string) []string {
	var out []string
	for _, w := range plainSequence.FindAllString(text, -1) {
		out = append(out, strings.ToLower(w)[:min(len(w), 16)])
	}
	slices.Sort(out)
	out = slices.Compact(out)
	return out[:min(len(out), 64)]
}

func plainHas(text string, l []string) bool {
	return !slices.ContainsFunc(l, func(w string) bool { return !slices.Contains(plainWords(text), w) })
}

func wordsFine(l []string) bool {
	return len(l) >= 1 && len(l) <= 8 && !slices.ContainsFunc(l, func(w string) bool { return !plainWord.MatchString(w) })
}

// errors returns which errors an operation has, in their order.
func (p *plain) errors(o model.Op) []api.Errno {
	var out []api.Errno
	fail := func(e api.Errno, is bool) {
		if is {
			out = append(out, e)
		}
	}
	b, to := p.box(o.Box), p.box(o.To)
	switch o.Kind {
	case 1:
		fail(api.ErrArg, !nameFine(o.Box))
		fail(api.ErrThere, b != nil)
		fail(api.ErrFull, len(p.boxes) == 16)
	case 2, 5, 6, 7, 10, 11:
		fail(api.ErrName, b == nil)
	case 3:
		fail(api.ErrName, b == nil)
		fail(api.ErrArg, !nameFine(o.To))
		fail(api.ErrThere, to != nil)
	case 8, 9:
		fail(api.ErrName, b == nil || to == nil)
		fail(api.ErrNone, b != nil && b.at(o.UID) < 0)
		fail(api.ErrFull, to != nil && len(to.l) == 256)
	case 12:
		fail(api.ErrArg, !wordsFine(o.Words) || !flagsFine(o.Flags))
		fail(api.ErrName, o.Box != "" && b == nil)
	case 4, 13:
	default:
		fail(api.ErrArg, true)
	}
	if o.Kind == 6 {
		fail(api.ErrBig, len(o.Text) > 4096)
		fail(api.ErrArg, !flagsFine(o.Flags))
		fail(api.ErrFull, b != nil && len(b.l) == 256)
	}
	if o.Kind == 7 || o.Kind == 10 {
		fail(api.ErrNone, b != nil && b.at(o.UID) < 0)
		fail(api.ErrArg, o.Kind == 10 && (!flagsFine(o.Flags) || !flagsFine(o.Off)))
	}
	return out
}

func (p *plain) do(o model.Op) model.Answer {
	if l := p.errors(o); len(l) > 0 {
		return model.Answer{Err: l[0]}
	}
	b, to := p.box(o.Box), p.box(o.To)
	switch o.Kind {
	case 1:
		p.boxes = append(p.boxes, &plainBox{name: o.Box, id: p.nextBox, next: 1})
		p.nextBox++
		return model.Answer{N: p.nextBox - 1}
	case 2:
		p.boxes = slices.DeleteFunc(p.boxes, func(x *plainBox) bool { return x == b })
		return model.Answer{N: b.id}
	case 3:
		b.name = o.To
		return model.Answer{N: b.id}
	case 4:
		return model.Answer{Names: p.list()}
	case 5:
		return model.Answer{N: len(b.l), Text: fmt.Sprint(b.id, b.next, b.unseen())}
	case 6:
		p.nextID++
		return model.Answer{N: b.add(p.nextID-1, o.Flags, o.Text)}
	case 11:
		return p.expunge(b)
	case 12:
		return p.search(o)
	case 13:
		return model.Answer{}
	}
	i := b.at(o.UID)
	e := b.l[i]
	switch o.Kind {
	case 7:
		return model.Answer{N: e.flags, Text: e.text}
	case 10:
		b.l[i].flags = changed(e.flags, o.Flags, o.Off)
		return model.Answer{N: b.l[i].flags}
	}
	if o.Kind == 9 {
		b.l = slices.Delete(b.l, i, i+1)
	}
	return model.Answer{N: to.add(e.id, e.flags, e.text)}
}

// changed returns flags without those of off, and with those of on.
func changed(flags, on, off int) int {
	out := 0
	for f := 1; f < 32; f *= 2 {
		if on/f%2 == 1 || flags/f%2 == 1 && off/f%2 == 0 {
			out += f
		}
	}
	return out
}

func (p *plain) expunge(b *plainBox) model.Answer {
	var a model.Answer
	for _, e := range slices.Clone(b.l) {
		if e.flags/8%2 == 1 {
			a.Hits = append(a.Hits, model.Hit{Box: b.name, UID: e.uid, Flags: e.flags})
			b.l = slices.Delete(b.l, b.at(e.uid), b.at(e.uid)+1)
			a.N++
		}
	}
	return a
}

func (p *plain) search(o model.Op) model.Answer {
	var a model.Answer
	for _, b := range p.sorted() {
		for _, e := range b.l {
			if (o.Box == "" || o.Box == b.name) && e.flags|o.Flags == e.flags && plainHas(e.text, o.Words) {
				a.Hits = append(a.Hits, model.Hit{Box: b.name, UID: e.uid, Flags: e.flags})
				a.N++
			}
		}
	}
	return a
}

// want compares results.
func want[T comparable](t *testing.T, what string, got, wanted T) {
	t.Helper()
	if got != wanted {
		t.Errorf("%s: got %v, want %v", what, got, wanted)
	}
}

func wantNumbers(t *testing.T, what string, got []int, wanted ...int) {
	t.Helper()
	if !slices.Equal(got, wanted) {
		t.Errorf("%s: got %v, want %v", what, got, wanted)
	}
}

// told returns an answer as a text that tells all of it.
func told(a model.Answer) string {
	return fmt.Sprintf("error %d, N %d, Text %q, Names %q, Hits %+v", a.Err, a.N, a.Text, a.Names, a.Hits)
}

// state returns everything that a model tells, as a text.
func state(m *model.Model) string {
	var out strings.Builder
	fmt.Fprintf(&out, "next %d, names %q", m.Next(), m.Names().Pack())
	for id := range m.Names().Next() + 2 {
		if b, is := m.Box(id); is {
			fmt.Fprintf(&out, ", box %d: %q", id, b.Pack())
		}
	}
	for _, id := range m.Mails() {
		text, is := m.Mail(id)
		fmt.Fprintf(&out, ", mail %d: %q %v", id, text, is)
	}
	return out.String()
}

// wantDo checks an answer, and that nothing has changed if it is an error (P19.2), or if the operation only asks.
func wantDo(t *testing.T, m *model.Model, o model.Op, wanted model.Answer) {
	t.Helper()
	before := state(m)
	if got := m.Do(o); told(got) != told(wanted) {
		t.Errorf("%.300q: got %.1000s, want %.1000s", fmt.Sprint(o), told(got), told(wanted))
	}
	asks := o.Kind == model.List || o.Kind == model.Status || o.Kind == model.Fetch || o.Kind == model.Search || o.Kind == model.Compact
	if after := state(m); (wanted.Err != api.OK || asks) && after != before {
		t.Errorf("%.300q: %.1000s became %.1000s", fmt.Sprint(o), before, after)
	}
}

// wantMails checks which mails there are, by their numbers and texts.
func wantMails(t *testing.T, m *model.Model, wanted map[int]string) {
	t.Helper()
	l := m.Mails()
	want(t, "mails", len(l), len(wanted))
	want(t, "Mails ascend", slices.IsSorted(l), true)
	for _, id := range l {
		text, is := m.Mail(id)
		of, exists := wanted[id]
		if text != of || !is || !exists {
			t.Errorf("Mail %d: got %.100q %v, want %.100q %v", id, text, is, of, exists)
		}
	}
}

// wantAlike checks everything that a model tells.
func wantAlike(t *testing.T, m *model.Model, p *plain) {
	t.Helper()
	want(t, "Next", m.Next(), p.nextID)
	n := m.Names()
	want(t, "next number", n.Next(), p.nextBox)
	want(t, "names", strings.Join(n.List(), " "), strings.Join(p.list(), " "))
	boxes := map[int]bool{}
	for _, x := range p.boxes {
		boxes[x.id] = true
		id, _ := n.Of(x.name)
		want(t, "number of "+x.name, id, x.id)
		b, is := m.Box(x.id)
		if !is {
			t.Fatalf("there is no box %d", x.id)
		}
		want(t, "Validity", b.Validity(), x.id)
		want(t, "next UID", b.Next(), x.next)
		var l []box.Entry
		for _, e := range x.l {
			l = append(l, box.Entry{UID: e.uid, Flags: e.flags, Mail: e.id})
		}
		if got := b.List(); !slices.Equal(got, l) {
			t.Errorf("%s: got %.300s, want %.300s", x.name, fmt.Sprint(got), fmt.Sprint(l))
		}
	}
	for id := range p.nextBox + 2 {
		if b, is := m.Box(id); is != boxes[id] || is != (b != nil) {
			t.Errorf("Box %d: %v %v", id, b, is)
		}
	}
	mails := p.mails()
	wantMails(t, m, mails)
	for id := range p.nextID + 2 {
		text, is := m.Mail(id)
		wanted, exists := mails[id]
		if text != wanted || is != exists {
			t.Errorf("Mail %d: %.100q %v", id, text, is)
		}
	}
}
