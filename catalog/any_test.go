package catalog_test

import (
	"math/rand"
	"slices"
	"strings"
	"testing"

	"sealwax/alloc"
	"sealwax/api"
	"sealwax/box"
	"sealwax/catalog"
	"sealwax/suite"
)

// anyCatalog returns a catalog as a mail store has it, with mails that may be lost, and the numbers of these.
func anyCatalog(r *rand.Rand, s *suite.Suite) (*catalog.Catalog, []int) {
	c := catalog.New(s)
	for range r.Intn(8) {
		c.Mails[c.Next] = alloc.Span{First: 1 + r.Intn(4096), Count: 1 + r.Intn(4096)}
		c.Index.Add(c.Next, []string{"cat", "dog", "a", "7"}[r.Intn(4)])
		c.Next += 1 + r.Intn(3)
	}
	lost := mailsOf(c)
	for range r.Intn(8) {
		name := strings.Repeat(string(rune('a'+r.Intn(26))), 1+r.Intn(32))
		id, e := c.Names.Create(name)
		if e != api.OK {
			continue
		}
		c.Boxes[id] = box.New(id)
		for _, mail := range mailsOf(c) {
			if r.Intn(3) == 0 {
				c.Boxes[id].Add(mail, r.Intn(32))
				lost = slices.DeleteFunc(lost, func(id int) bool { return id == mail })
			}
		}
		if r.Intn(4) == 0 {
			c.Boxes[id].Remove(1)
			lost = nil
		}
	}
	return c, lost
}

// mailsOf returns the numbers of mails as the catalog counts them.
func mailsOf(c *catalog.Catalog) []int {
	var out []int
	for id := range c.Next {
		if _, is := c.Mails[id]; is {
			out = append(out, id)
		}
	}
	return out
}

// plainPack returns the bytes of a catalog, by the encodings of its parts.
func plainPack(c *catalog.Catalog) string {
	out := c.Names.Pack()
	for id := range c.Names.Next() {
		if b, is := c.Boxes[id]; is {
			out += mailbox(b.Validity(), b.Next(), b.List()...)
		}
	}
	out += num(c.Next, len(c.Mails))
	for _, id := range mailsOf(c) {
		out += place(id, c.Mails[id].First, c.Mails[id].Count)
	}
	return out + text(c.Index.Pack())
}

// TestAny: P20.1 and P20.2, any catalogs.
func TestAny(t *testing.T) {
	r := rand.New(rand.NewSource(20))
	for range 600 {
		s := suites()[r.Intn(3)]
		c, lost := anyCatalog(r, s)
		want(t, "Pack", c.Pack(), plainPack(c))
		d := wantRead(t, s, c.Pack())
		for _, k := range []*catalog.Catalog{c, d, c.Clone()} {
			if lost != nil {
				wantNumbers(t, "Lost", k.Lost(), lost...)
			}
			var spans []alloc.Span
			for _, id := range mailsOf(k) {
				spans = append(spans, k.Mails[id])
			}
			wantSpans(t, k, spans...)
		}
	}
}

// changed returns bytes that differ in some way that may be seen as late as possible.
func changed(r *rand.Rand, packed string) string {
	i := r.Intn(len(packed) + 1)
	j := i + r.Intn(len(packed)+1-i)
	switch r.Intn(12) {
	case 0:
		return packed[:i]
	case 1:
		return packed[:i] + packed[j:]
	case 2:
		return packed[:i] + packed[i:j] + packed[i:j] + packed[j:]
	case 3:
		return packed[:i] + zeros(r.Intn(20)) + packed[i:]
	}
	out := []byte(packed)
	for range 1 + r.Intn(2) {
		k := r.Intn(len(out))
		switch r.Intn(4) {
		case 0:
			out[k] ^= 1 << r.Intn(8)
		case 1:
			out[k] = byte(r.Intn(256))
		default: // the lowest byte of one of the numbers
			out[k/8*8+7] += byte(r.Intn(5)) - 2
		}
	}
	return string(out)
}

// TestReadAny: P20.1, bytes that were changed, against a reader that is written apart.
func TestReadAny(t *testing.T) {
	r := rand.New(rand.NewSource(201))
	counts := map[api.Errno]int{}
	for range 400 {
		s := suites()[r.Intn(3)]
		c, _ := anyCatalog(r, s)
		packed := c.Pack()
		for range 40 {
			counts[wantLikePlain(t, s, changed(r, packed))]++
		}
	}
	if len(counts) != 3 || counts[api.OK] < 500 || counts[api.ErrForm] < 500 || counts[api.ErrEnd] < 500 {
		t.Errorf("%v: the test asks for one kind only", counts)
	}
}
