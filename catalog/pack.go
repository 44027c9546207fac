package catalog

import (
	"slices"

	"sealwax/alloc"
	"sealwax/api"
	"sealwax/box"
	"sealwax/index"
	"sealwax/names"
	"sealwax/numbers"
	"sealwax/suite"
	"sealwax/wire"
)

// Pack returns the bytes from which Read makes the same catalog.
func (c *Catalog) Pack() string {
	var out wire.Out
	out.Raw(c.Names.Pack())
	for _, id := range numbers.Of(c.Boxes) {
		out.Raw(c.Boxes[id].Pack())
	}
	out.Num(c.Next, len(c.Mails))
	for _, id := range numbers.Of(c.Mails) {
		x := c.Mails[id]
		out.Num(id, x.First, x.Count)
	}
	out.Text(c.Index.Pack())
	return out.Bytes()
}

// Read is the reverse of Pack.
func Read(s *suite.Suite, t string) (*Catalog, api.Errno) {
	c, in := New(s), wire.Of(t)
	c.readNames(in)
	c.readBoxes(in)
	c.readMails(in)
	c.readIndex(s, in)
	if e := in.End(); e != api.OK {
		return nil, e
	}
	if !c.isWhole() {
		return nil, api.ErrForm
	}
	return c, api.OK
}

func (c *Catalog) readNames(in *wire.In) {
	if n, e := names.Read(in); e == api.OK {
		c.Names = n
	}
}

// readBoxes reads a mailbox for the number of each name.
func (c *Catalog) readBoxes(in *wire.In) {
	for _, id := range c.ids() {
		b, e := box.Read(in)
		if e != api.OK {
			return
		}
		if b.Validity() != id {
			in.Fail(api.ErrForm)
		}
		c.Boxes[id] = b
	}
}

// ids returns the numbers of the names in ascending order.
func (c *Catalog) ids() []int {
	var out []int
	for _, name := range c.Names.List() {
		id, _ := c.Names.Of(name)
		out = append(out, id)
	}
	slices.Sort(out)
	return out
}

func (c *Catalog) readMails(in *wire.In) {
	next, count := in.Num(), in.Num()
	if next < 1 || next > api.MaxCount || count > api.MaxPages { // each mail needs a page
		in.Fail(api.ErrForm)
	}
	c.Next = next
	last := 0
	for i := 0; i < count && in.Err() == api.OK; i++ {
		id, x := in.Num(), alloc.Span{First: in.Num(), Count: in.Num()}
		if id <= last || id >= next || !isPlace(x.First) || !isPlace(x.Count) {
			in.Fail(api.ErrForm)
		}
		c.Mails[id] = x
		last = id
	}
}

func isPlace(n int) bool { return n >= 1 && n <= api.MaxPages }

// readIndex has no effect on a reader that has failed already: its text is empty then, and the first error counts.
func (c *Catalog) readIndex(s *suite.Suite, in *wire.In) {
	x, e := index.Read(s, in.Text())
	in.Fail(e)
	c.Index = x
}

// isWhole reports whether each entry is for a mail that exists.
func (c *Catalog) isWhole() bool {
	for e := range c.entries() {
		if _, is := c.Mails[e.Mail]; !is {
			return false
		}
	}
	return true
}
