package shelf_test

import (
	"maps"
	"math/rand"
	"slices"
	"strings"
	"testing"

	"sealwax/alloc"
	"sealwax/api"
	"sealwax/shelf"
	"sealwax/vault"
)

// plain is a shelf that is written apart from the program: each page has a letter, . if it is free, # if it is allocated, x if it was dropped.
type plain struct {
	*rig
	random             *rand.Rand
	pages, lastPages   string
	texts, lastTexts   map[span]string // all that were put, and not dropped
	root, lastRoot     string
	gone               map[span]string // what was dropped since the last Commit
	full, big, crashes int
}

func (p *plain) begin() {
	p.pages = strings.ReplaceAll(p.pages, "x", ".")
	p.lastPages, p.lastTexts, p.lastRoot, p.gone = p.pages, maps.Clone(p.texts), p.root, map[span]string{}
}

// back is what an Abort does, and a crash.
func (p *plain) back() {
	p.pages, p.texts, p.root, p.gone = p.lastPages, maps.Clone(p.lastTexts), p.lastRoot, map[span]string{}
}

func (p *plain) set(x span, letter string) {
	p.pages = p.pages[:x.First] + strings.Repeat(letter, x.Count) + p.pages[x.First+x.Count:]
}

func plainClass(n int) int {
	for _, x := range []struct{ most, pages int }{{232, 1}, {472, 2}, {952, 4}, {1912, 8}, {3832, 16}, {7672, 32}} {
		if n <= x.most {
			return x.pages
		}
	}
	return 0
}

func (p *plain) put(t *testing.T) {
	t.Helper()
	n := p.random.Intn(250)
	if p.random.Intn(3) == 0 {
		n = p.random.Intn(3000)
	}
	if p.random.Intn(30) == 0 {
		n = 7500 + p.random.Intn(300)
	}
	s := text(p.random.Intn(1000), n)
	x, e := p.Put(s)
	k := plainClass(n)
	first := strings.Index(p.pages, strings.Repeat(".", max(1, k)))
	switch {
	case k == 0:
		want(t, "Put", e, api.ErrBig)
		p.big++
	case first < 0:
		want(t, "Put", e, api.ErrFull)
		p.full++
	default:
		want(t, "Put", e, api.OK)
		want(t, "Put", x, at(first, k))
		p.set(x, "#")
		p.texts[x] = s
		return
	}
	want(t, "Put", x, span{})
}

func (p *plain) drop(t *testing.T) {
	t.Helper()
	x := at(p.random.Intn(len(p.pages)+4)-2, p.random.Intn(5)-1)
	if l := slices.SortedFunc(maps.Keys(p.texts), func(a, b span) int { return a.First - b.First }); len(l) > 0 && p.random.Intn(4) > 0 {
		x = l[p.random.Intn(len(l))]
	} else if x.First > 0 && x.Count > 0 && x.First+x.Count <= len(p.pages) && p.pages[x.First:x.First+x.Count] == strings.Repeat("#", x.Count) {
		return // a part of a text, which this plain shelf does not know
	}
	e := p.Drop(x)
	s, ok := p.texts[x]
	if !ok {
		want(t, "Drop", e, api.ErrNone)
		return
	}
	want(t, "Drop", e, api.OK)
	p.set(x, "x")
	delete(p.texts, x)
	p.gone[x] = s
}

func (p *plain) commits(t *testing.T) {
	t.Helper()
	armed := p.random.Intn(3) == 0
	number := p.tr.Commit
	if armed {
		p.d.Arm(p.random.Intn(30), p.random.Uint64())
	}
	nothing := len(p.Vault().Dirty()) == 0
	e := p.Commit()
	switch {
	case e == api.ErrCrash && armed:
		p.crashes++
		if p.tr.Commit != number { // it was too late to stop it
			p.begin()
		}
		p.back()
		p.d.Start()
		p.reopen(t)
	case e == api.ErrFull && !nothing: // of the journal
		p.Abort()
		p.back()
	default:
		want(t, "Commit", e, api.OK)
		p.begin()
	}
	p.d.Arm(-1, 0)
}

func (p *plain) reopen(t *testing.T) {
	t.Helper()
	p.open(t, slices.SortedFunc(maps.Keys(p.texts), func(a, b span) int { return b.First - a.First })...)
}

// wantAlike checks everything that a shelf tells: what was dropped is still there before the Commit (P14.3).
func (p *plain) wantAlike(t *testing.T) {
	t.Helper()
	m := alloc.New(len(p.pages))
	for i, letter := range p.pages {
		if letter != '.' {
			m.Mark(at(i, 1))
		}
	}
	p.wantTold(t, strings.Count(p.pages, "."), m.Taken()...)
	for x, s := range p.texts {
		p.wantGet(t, x, s)
	}
	for x, s := range p.gone {
		p.wantGet(t, x, s)
	}
	p.wantRoot(t, p.root)
}

// wantCommitted checks P14.3 and P14.2: whoever opens the vault now finds all that was committed.
func (p *plain) wantCommitted(t *testing.T) {
	t.Helper()
	tr := *p.tr
	v, e := vault.Open(p.d.Clone(), p.s.Clone(), &tr, p.c)
	if e != api.OK {
		t.Fatalf("Open: error %d", e)
	}
	s, ok := shelf.New(v, slices.Collect(maps.Keys(p.lastTexts))...)
	want(t, "New", ok, true)
	other := &rig{Shelf: s}
	for x, s := range p.lastTexts {
		other.wantGet(t, x, s)
	}
	other.wantRoot(t, p.lastRoot)
}

func (p *plain) step(t *testing.T) {
	t.Helper()
	switch p.random.Intn(12) {
	case 0, 1, 2, 3:
		p.put(t)
	case 4, 5, 6:
		p.drop(t)
	case 7, 8:
		p.commits(t)
	case 9:
		s := text(p.random.Intn(1000), p.random.Intn(240))
		if len(s) > 232 {
			want(t, "SetRoot", p.SetRoot(s), api.ErrBig)
			return
		}
		want(t, "SetRoot", p.SetRoot(s), api.OK)
		p.root = s
	case 10:
		p.Abort()
		p.back()
	case 11:
		p.back()
		p.reopen(t)
	}
}

// TestAny: P14.1 to P14.3, any calls, with crashes of Commit.
func TestAny(t *testing.T) {
	random := rand.New(rand.NewSource(14))
	full, big, crashes := 0, 0, 0
	for round := range 100 {
		n := 1 + random.Intn(60)
		p := &plain{rig: newRig(t, n, 30+random.Intn(60)), random: random, texts: map[span]string{}, pages: "#" + strings.Repeat(".", n-1)}
		p.begin()
		for range 100 {
			p.step(t)
			p.wantAlike(t)
			if p.random.Intn(4) == 0 {
				p.wantCommitted(t)
			}
			if t.Failed() {
				t.Fatalf("round %d: %s", round, p.pages)
			}
		}
		full, big, crashes = full+p.full, big+p.big, crashes+p.crashes
	}
	if full < 100 || big < 20 || crashes < 100 {
		t.Errorf("%d times ErrFull, %d times ErrBig, %d crashes: the test asks too little", full, big, crashes)
	}
}
