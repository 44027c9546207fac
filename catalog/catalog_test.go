package catalog_test

import (
	"math"
	"slices"
	"strings"
	"testing"

	"sealwax/alloc"
	"sealwax/api"
	"sealwax/box"
	"sealwax/catalog"
	"sealwax/index"
	"sealwax/suite"
)

// create adds a name, and a mailbox for it with entries for these mails.
func create(t *testing.T, c *catalog.Catalog, name string, mails ...int) int {
	t.Helper()
	id, e := c.Names.Create(name)
	want(t, "error", e, api.OK)
	c.Boxes[id] = box.New(id)
	for i, mail := range mails {
		_, e := c.Boxes[id].Add(mail, i%32)
		want(t, "error", e, api.OK)
	}
	return id
}

// remove removes a name with its mailbox.
func remove(t *testing.T, c *catalog.Catalog, name string) {
	t.Helper()
	id, e := c.Names.Delete(name)
	want(t, "error", e, api.OK)
	delete(c.Boxes, id)
}

// some returns a catalog with three mailboxes, whose names ascend in another order than their numbers, and three mails.
func some(t *testing.T, s *suite.Suite) *catalog.Catalog {
	t.Helper()
	c := catalog.New(s)
	create(t, c, "old", 2, 9, 2)
	create(t, c, "x")
	create(t, c, "in", 9, 300)
	remove(t, c, "x")
	create(t, c, "a/b")
	c.Mails[300], c.Mails[2], c.Mails[9] = alloc.Span{First: 1, Count: 4}, alloc.Span{First: 4096, Count: 1}, alloc.Span{First: 7, Count: 4096}
	c.Next = 301
	c.Index.Add(9, "cat", "dog")
	c.Index.Add(2, "cat")
	return c
}

// packed is the bytes of some, with those of its index.
func packed(index string) string {
	return num(5, 3) + name("a/b", 4) + name("in", 3) + name("old", 1) +
		mailbox(1, 4, box.Entry{UID: 1, Mail: 2}, box.Entry{UID: 2, Flags: 1, Mail: 9}, box.Entry{UID: 3, Flags: 2, Mail: 2}) +
		mailbox(3, 3, box.Entry{UID: 1, Mail: 9}, box.Entry{UID: 2, Flags: 1, Mail: 300}) +
		mailbox(4, 1) +
		num(301, 3) + place(2, 4096, 1) + place(9, 7, 4096) + place(300, 1, 4) +
		text(index)
}

// suites returns one of each kind.
func suites() []*suite.Suite {
	return []*suite.Suite{suite.Real("key"), suite.Ideal("tape"), suite.Ideal("")}
}

func TestExample(t *testing.T) {
	for _, s := range suites() {
		c := catalog.New(s)
		want(t, "Pack", c.Pack(), num(1, 0)+num(1, 0)+num(16)+zeros(16))
		wantRead(t, s, c.Pack())
	}
}

func TestNew(t *testing.T) {
	s := suite.Real("key")
	c := catalog.New(s)
	want(t, "names", len(c.Names.List()), 0)
	want(t, "next number", c.Names.Next(), 1)
	want(t, "mailboxes", len(c.Boxes), 0)
	want(t, "mails", len(c.Mails), 0)
	want(t, "Next", c.Next, 1)
	want(t, "postings", c.Index.Len(), 0)
	wantNumbers(t, "Lost", c.Lost())
	wantSpans(t, c)
	d := catalog.New(s)
	create(t, d, "in", 1)
	d.Mails[1] = alloc.Span{First: 1, Count: 1}
	want(t, "the other one", c.Pack(), catalog.New(s).Pack())
	c.Index.Add(1, "cat")
	x := index.New(s)
	x.Add(1, "cat")
	want(t, "an index of the suite", c.Index.Pack(), x.Pack())
}

// TestPack: the layout, with the mailboxes and the mails in the order of their numbers.
func TestPack(t *testing.T) {
	for _, s := range suites() {
		c := some(t, s)
		want(t, "Pack", c.Pack(), packed(c.Index.Pack()))
		want(t, "Pack again", c.Pack(), packed(c.Index.Pack()))
		for range 20 {
			want(t, "Pack of a copy", c.Clone().Pack(), packed(c.Index.Pack()))
		}
	}
}

// TestPackAny: fields that no encoding has; numbers below 0 are written as 0.
func TestPackAny(t *testing.T) {
	s := suite.Real("key")
	c := catalog.New(s)
	c.Mails = nil
	want(t, "no mails", c.Pack(), num(1, 0)+num(1, 0)+noIndex)
	wantNumbers(t, "Lost", c.Lost())
	wantSpans(t, c)
	c.Next = -7
	c.Mails = map[int]alloc.Span{5: {First: -1, Count: math.MaxInt}, -2: {First: 3, Count: math.MinInt}, math.MaxInt: {}, math.MinInt: {First: 9, Count: 9}, 0: {}}
	id := create(t, c, "in", 5, 6)
	c.Boxes[id] = box.New(77)
	wanted := num(2, 1) + name("in", 1) + mailbox(77, 1) + num(0, 5) + place(0, 9, 9) + place(0, 3, 0) + place(0, 0, 0) + place(5, 0, math.MaxInt) + place(math.MaxInt, 0, 0) + noIndex
	want(t, "Pack", c.Pack(), wanted)
	wantSpans(t, c, alloc.Span{First: 9, Count: 9}, alloc.Span{First: 3, Count: math.MinInt}, alloc.Span{}, alloc.Span{First: -1, Count: math.MaxInt}, alloc.Span{})
	wantNumbers(t, "Lost", c.Lost(), math.MinInt, -2, 0, 5, math.MaxInt)
	k := c.Clone()
	want(t, "Pack of a copy", k.Pack(), wanted)
	want(t, "Next of a copy", k.Next, -7)
}

// TestLost: mails for which no mailbox has an entry.
func TestLost(t *testing.T) {
	c := some(t, suite.Real("key"))
	wantNumbers(t, "Lost", c.Lost())
	c.Boxes[3].Remove(2)
	wantNumbers(t, "Lost", c.Lost(), 300)
	c.Boxes[1].Remove(1)
	wantNumbers(t, "Lost", c.Lost(), 300)
	c.Boxes[1].Remove(3)
	wantNumbers(t, "Lost", c.Lost(), 2, 300)
	c.Mails[100], c.Mails[1] = alloc.Span{}, alloc.Span{}
	wantNumbers(t, "Lost", c.Lost(), 1, 2, 100, 300)
	remove(t, c, "old")
	wantNumbers(t, "Lost", c.Lost(), 1, 2, 100, 300)
	remove(t, c, "in")
	wantNumbers(t, "Lost", c.Lost(), 1, 2, 9, 100, 300)
	want(t, "mails", len(c.Mails), 5)
	c.Boxes[4].Add(100, 0)
	c.Boxes[4].Add(7, 0)
	wantNumbers(t, "Lost", c.Lost(), 1, 2, 9, 300)
	clear(c.Mails)
	wantNumbers(t, "Lost", c.Lost())
}

// TestSpans: in the order of the numbers of the mails, not of the places.
func TestSpans(t *testing.T) {
	c := some(t, suite.Real("key"))
	wantSpans(t, c, alloc.Span{First: 4096, Count: 1}, alloc.Span{First: 7, Count: 4096}, alloc.Span{First: 1, Count: 4})
	delete(c.Mails, 9)
	wantSpans(t, c, alloc.Span{First: 4096, Count: 1}, alloc.Span{First: 1, Count: 4})
	c.Mails[1] = alloc.Span{First: 1, Count: 4}
	wantSpans(t, c, alloc.Span{First: 1, Count: 4}, alloc.Span{First: 4096, Count: 1}, alloc.Span{First: 1, Count: 4})
	l := c.Spans()
	l[0] = alloc.Span{}
	want(t, "the mail", c.Mails[1], alloc.Span{First: 1, Count: 4})
	lost := c.Lost()
	lost[0] = 300
	wantNumbers(t, "Lost", c.Lost(), 1)
}

// TestClone: what is done to any part of one is not done to the other.
func TestClone(t *testing.T) {
	for _, s := range suites() {
		c := some(t, s)
		before := c.Pack()
		for what, change := range map[string]func(*catalog.Catalog){
			"a name":          func(c *catalog.Catalog) { c.Names.Rename("in", "b") },
			"a mailbox":       func(c *catalog.Catalog) { create(t, c, "new", 2) },
			"an entry":        func(c *catalog.Catalog) { c.Boxes[1].Add(2, 0) },
			"flags":           func(c *catalog.Catalog) { c.Boxes[3].Set(1, 8, 0) },
			"no mailbox":      func(c *catalog.Catalog) { delete(c.Boxes, 4) },
			"another mailbox": func(c *catalog.Catalog) { c.Boxes[4] = box.New(5) },
			"no mail":         func(c *catalog.Catalog) { delete(c.Mails, 9) },
			"a mail":          func(c *catalog.Catalog) { c.Mails[9] = alloc.Span{} },
			"another mail":    func(c *catalog.Catalog) { c.Mails[10] = alloc.Span{} },
			"a number":        func(c *catalog.Catalog) { c.Next++ },
			"a word":          func(c *catalog.Catalog) { c.Index.Add(9, "cats") },
			"a posting":       func(c *catalog.Catalog) { c.Index.Del(9, "cat") },
			"no posting":      func(c *catalog.Catalog) { c.Index.Del(9, "cat"); c.Index.Fresh("cat") },
		} {
			k := c.Clone()
			want(t, "the copy", k.Pack(), before)
			change(k)
			want(t, what+" of the copy", c.Pack(), before)
			want(t, what+" has changed", k.Pack() != before, true)
			other, k := c.Clone(), c.Clone()
			change(other)
			want(t, what+" of the original", k.Pack(), before)
		}
	}
}

// TestCloneNil: a copy of what has no mails gets mails as others do.
func TestCloneNil(t *testing.T) {
	c := catalog.New(suite.Real("key"))
	c.Mails = nil
	k := c.Clone()
	k.Mails[1] = alloc.Span{First: 1, Count: 1}
	wantSpans(t, k, alloc.Span{First: 1, Count: 1})
	wantSpans(t, c)
}

// TestReadAgain: P20.2, a catalog is read from its encoding, and goes on as the one that was packed.
func TestReadAgain(t *testing.T) {
	for _, s := range suites() {
		c := some(t, s)
		d, other := wantRead(t, s, c.Pack()), wantRead(t, s, c.Pack())
		want(t, "names", strings.Join(d.Names.List(), " "), "a/b in old")
		want(t, "next number", d.Names.Next(), 5)
		want(t, "mailboxes", len(d.Boxes), 3)
		for id, b := range d.Boxes {
			want(t, "mailbox", b.Pack(), c.Boxes[id].Pack())
		}
		want(t, "mails", len(d.Mails), 3)
		for id, x := range d.Mails {
			want(t, "mail", x, c.Mails[id])
		}
		want(t, "Next", d.Next, 301)
		wantNumbers(t, "Find", d.Index.Find("cat"), 2, 9)
		before := c.Pack()
		for _, k := range []*catalog.Catalog{c, d, d.Clone()} {
			create(t, k, "new", 2)
			k.Boxes[5].Add(301, 3)
			k.Mails[301] = alloc.Span{First: 5, Count: 5}
			k.Next++
			k.Index.Add(301, "cat")
			k.Index.Fresh("cat")
			wantNumbers(t, "Lost", k.Lost())
		}
		want(t, "Pack", d.Pack(), c.Pack())
		want(t, "the other one", other.Pack(), before)
		wantRead(t, s, d.Pack())
	}
}

// TestReadOtherSuite: the postings are under other labels then.
func TestReadOtherSuite(t *testing.T) {
	s := suite.Real("key")
	c := some(t, s)
	wantRead(t, suite.Real("key"), c.Pack())
	for _, other := range []*suite.Suite{suite.Real("kex"), suite.Ideal("key"), suite.Ideal("")} {
		wantNoRead(t, other, c.Pack(), api.ErrForm)
		d := some(t, other)
		wantRead(t, other, d.Pack())
		d.Index = c.Index.Clone()
		wantNoRead(t, other, d.Pack(), api.ErrForm)
		wantRead(t, s, d.Pack())
		d.Index = index.New(s)
		wantRead(t, other, d.Pack()).Index.Add(7, "cat")
	}
}

// TestReadMany: as much as there can be of everything.
func TestReadMany(t *testing.T) {
	s := suite.Real("key")
	c := catalog.New(s)
	mails := make([]int, 256)
	for i := range 4096 {
		c.Mails[i+1] = alloc.Span{First: 1 + i, Count: 4096 - i}
		mails[i%256] = i + 1
		if i%256 == 255 {
			create(t, c, strings.Repeat("z", 32-i/256), mails...)
		}
	}
	c.Next = most
	d := wantRead(t, s, c.Pack())
	want(t, "mailboxes", len(d.Boxes), 16)
	want(t, "mails", len(d.Mails), 4096)
	wantNumbers(t, "Lost", d.Lost())
	if !slices.Equal(d.Spans(), c.Spans()) {
		t.Error("the spans differ")
	}
	c.Mails[5000] = alloc.Span{First: 1, Count: 1}
	wantNoRead(t, s, c.Pack(), api.ErrForm)
}
