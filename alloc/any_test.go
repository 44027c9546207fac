package alloc_test

import (
	"fmt"
	"math/rand"
	"slices"
	"strings"
	"testing"

	"sealwax/alloc"
)

// plain is a map that is written apart from the program: a text with a # for each allocated page.
type plain struct{ pages string }

func newPlain(n int) *plain { return &plain{pages: strings.Repeat(".", n)} }

func plainOf(s string) *plain { return &plain{pages: s} }

// asMap returns a Map with the same pages, each of them marked alone.
func (p *plain) asMap(t *testing.T) *alloc.Map {
	t.Helper()
	m := alloc.New(len(p.pages))
	for i := range p.pages {
		if p.pages[i] == '#' && !m.Mark(alloc.Span{First: i, Count: 1}) {
			t.Fatalf("%s: page %d cannot be marked", p.pages, i)
		}
	}
	return m
}

func (p *plain) take(k int) (alloc.Span, bool) {
	if k < 1 || k > len(p.pages) {
		return alloc.Span{}, false
	}
	first := strings.Index(p.pages, strings.Repeat(".", k))
	if first < 0 {
		return alloc.Span{}, false
	}
	x := alloc.Span{First: first, Count: k}
	return x, p.change(x, ".", "#")
}

func (p *plain) change(x alloc.Span, from, to string) bool {
	for i := range len(p.pages) {
		if i != x.First {
			continue
		}
		for end := i + 1; end <= len(p.pages); end++ {
			if end-i == x.Count && p.pages[i:end] == strings.Repeat(from, x.Count) {
				p.pages = p.pages[:i] + strings.Repeat(to, x.Count) + p.pages[end:]
				return true
			}
		}
	}
	return false
}

func (p *plain) most() int {
	n := 0
	for _, s := range strings.Split(p.pages, "#") {
		n = max(n, len(s))
	}
	return n
}

func (p *plain) taken() []alloc.Span {
	var out []alloc.Span
	at := 0
	for _, s := range strings.Split(p.pages, ".") {
		if s != "" {
			out = append(out, alloc.Span{First: at, Count: len(s)})
		}
		at += len(s) + 1
	}
	return out
}

// wantAlike checks everything that a Map tells without changing.
func (p *plain) wantAlike(t *testing.T, m *alloc.Map) {
	t.Helper()
	free, most, taken := m.Free(), m.Most(), m.Taken()
	if free != strings.Count(p.pages, ".") || most != p.most() || !slices.Equal(taken, p.taken()) {
		t.Fatalf("%.60s: Free %d, Most %d, Taken %v", p.pages, free, most, taken)
	}
	for i := -2; i < len(p.pages)+3; i++ {
		if m.Is(i) != (i >= 0 && i < len(p.pages) && p.pages[i] == '#') {
			t.Fatalf("%.60s: Is(%d) is %v", p.pages, i, m.Is(i))
		}
	}
}

// TestEverySmallMap: P11.1, each call on each map of at most seven pages.
func TestEverySmallMap(t *testing.T) {
	for n := 1; n <= 7; n++ {
		for bits := range 1 << n {
			s := ""
			for i := range n {
				s += []string{".", "#"}[bits>>i&1]
			}
			everyCall(t, s)
		}
	}
}

func everyCall(t *testing.T, s string) {
	t.Helper()
	n := len(s)
	m := plainOf(s).asMap(t)
	plainOf(s).wantAlike(t, m)
	for k := -1; k <= n+1; k++ {
		p, c := plainOf(s), m.Clone()
		x, is := c.Take(k)
		wanted, ok := p.take(k)
		if x != wanted || is != ok {
			t.Fatalf("%s: Take(%d): got %v %v, want %v %v", s, k, x, is, wanted, ok)
		}
		p.wantAlike(t, c)
		for first := -1; first <= n+1; first++ {
			x := alloc.Span{First: first, Count: k}
			p, c = plainOf(s), m.Clone()
			want(t, fmt.Sprint(s, ": Mark ", x), c.Mark(x), p.change(x, ".", "#"))
			p.wantAlike(t, c)
			p, c = plainOf(s), m.Clone()
			want(t, fmt.Sprint(s, ": Give ", x), c.Give(x), p.change(x, "#", "."))
			p.wantAlike(t, c)
		}
	}
	plainOf(s).wantAlike(t, m)
}

// pageCounts tells for each page how often it was allocated, minus how often it was freed.
type pageCounts map[int]int

func (c pageCounts) add(t *testing.T, x alloc.Span, is bool, n int) {
	t.Helper()
	if !is {
		return
	}
	for p := x.First; p < x.First+x.Count; p++ {
		c[p] += n
		if c[p] < 0 || c[p] > 1 {
			t.Fatalf("page %d was allocated or freed twice", p)
		}
	}
}

// TestAny: P11.1 and P11.2, any calls in any order, with copies in between.
func TestAny(t *testing.T) {
	r := rand.New(rand.NewSource(11))
	taken, refused := 0, 0
	for round := range 150 {
		n := 1 + r.Intn(40)
		if round%30 == 0 {
			n = 4096 - r.Intn(3)
		}
		m, p, counts := alloc.New(n), newPlain(n), pageCounts{}
		for range 200 {
			k := r.Intn(n/6+3) - 1
			x := alloc.Span{First: r.Intn(n+2) - 1, Count: k}
			switch r.Intn(6) {
			case 0, 1:
				got, is := m.Take(k)
				wanted, ok := p.take(k)
				if got != wanted || is != ok {
					t.Fatalf("%.60s: Take(%d): got %v %v, want %v %v", p.pages, k, got, is, wanted, ok)
				}
				counts.add(t, got, is, 1)
				if is {
					taken++
				} else {
					refused++
				}
			case 2:
				is := m.Mark(x)
				want(t, "Mark", is, p.change(x, ".", "#"))
				counts.add(t, x, is, 1)
			case 3:
				is := m.Give(x)
				want(t, "Give", is, p.change(x, "#", "."))
				counts.add(t, x, is, -1)
			case 4:
				if l := m.Taken(); len(l) > 0 {
					x = l[r.Intn(len(l))]
					want(t, "Give of what was taken", m.Give(x), p.change(x, "#", "."))
					counts.add(t, x, true, -1)
				}
			case 5:
				old := m
				m = m.Clone()
				old.Take(1)
				old.Give(x)
			}
			p.wantAlike(t, m)
		}
	}
	if taken < 1000 || refused < 1000 {
		t.Errorf("%d taken, %d refused: the test asks for one kind only", taken, refused)
	}
}
