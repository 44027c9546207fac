package alloc_test

import (
	"fmt"
	"math"
	"slices"
	"testing"

	"sealwax/alloc"
)

func want[T comparable](t *testing.T, what string, got, wanted T) {
	t.Helper()
	if got != wanted {
		t.Errorf("%s: got %v, want %v", what, got, wanted)
	}
}

func wantTake(t *testing.T, m *alloc.Map, k int, wanted alloc.Span, is bool) {
	t.Helper()
	if got, ok := m.Take(k); got != wanted || ok != is {
		t.Errorf("Take(%d): got %v %v, want %v %v", k, got, ok, wanted, is)
	}
}

// ends are numbers that no map has, and whose sums may be too great.
var ends = []int{math.MinInt, math.MinInt + 1, -1 << 32, -4096, -2, -1, 4097, 1 << 31, 1 << 32, math.MaxInt - 4096, math.MaxInt - 1, math.MaxInt}

func TestExample(t *testing.T) {
	m := alloc.New(8)
	wantTake(t, m, 2, alloc.Span{First: 0, Count: 2}, true)
	wantTake(t, m, 3, alloc.Span{First: 2, Count: 3}, true)
	want(t, "Give", m.Give(alloc.Span{First: 0, Count: 2}), true)
	wantTake(t, m, 3, alloc.Span{First: 5, Count: 3}, true)
	wantTake(t, m, 2, alloc.Span{First: 0, Count: 2}, true)
	wantTake(t, m, 1, alloc.Span{}, false)
}

// TestNew: the number of pages is limited, and all of them are free.
func TestNew(t *testing.T) {
	for n, pages := range map[int]int{
		math.MinInt: 1, -4096: 1, -1: 1, 0: 1, 1: 1, 2: 2, 63: 63, 64: 64, 65: 65, 1024: 1024,
		4095: 4095, 4096: 4096, 4097: 4096, 1 << 20: 4096, 1<<32 + 1: 4096, math.MaxInt: 4096,
	} {
		m := alloc.New(n)
		newPlain(pages).wantAlike(t, m)
		wantTake(t, m, pages+1, alloc.Span{}, false)
		want(t, "Mark behind the end", m.Mark(alloc.Span{First: pages, Count: 1}), false)
		wantTake(t, m, pages, alloc.Span{Count: pages}, true)
		want(t, "Free", m.Free(), 0)
	}
}

func TestTakeWrong(t *testing.T) {
	m := alloc.New(5)
	m.Mark(alloc.Span{First: 0, Count: 1})
	m.Mark(alloc.Span{First: 3, Count: 1})
	p := plainOf("#..#.")
	for _, k := range append(ends, 0, 3, 4, 5, 6) {
		wantTake(t, m, k, alloc.Span{}, false)
		p.wantAlike(t, m)
	}
	wantTake(t, m, 2, alloc.Span{First: 1, Count: 2}, true)
	wantTake(t, m, 2, alloc.Span{}, false)
	wantTake(t, m, 1, alloc.Span{First: 4, Count: 1}, true)
	wantTake(t, m, 1, alloc.Span{}, false)
}

// TestSpansThatDoNotExist: nothing happens, whether pages are free or allocated.
func TestSpansThatDoNotExist(t *testing.T) {
	for _, s := range []string{"....", "####", "#..#", ".##."} {
		p := plainOf(s)
		m := p.asMap(t)
		numbers := append(slices.Clone(ends), 0, 1, 2, 3, 4, 5)
		for _, first := range numbers {
			for _, count := range numbers {
				x := alloc.Span{First: first, Count: count}
				if first >= 0 && first < 4 && count >= 1 && count <= 4-first {
					continue
				}
				what := fmt.Sprint(s, " ", x)
				want(t, what+": Mark", m.Mark(x), false)
				want(t, what+": Give", m.Give(x), false)
			}
			want(t, fmt.Sprint(s, ": Is ", first), m.Is(first), first >= 0 && first < 4 && s[max(0, min(first, 3))] == '#')
		}
		p.wantAlike(t, m)
	}
}

// TestTakenIsLeast: pages that were allocated one by one, in any order, are one Span.
func TestTakenIsLeast(t *testing.T) {
	m := alloc.New(100)
	for _, p := range []int{50, 48, 49, 51, 0, 99, 2, 98, 1} {
		want(t, "Mark", m.Mark(alloc.Span{First: p, Count: 1}), true)
	}
	wanted := []alloc.Span{{First: 0, Count: 3}, {First: 48, Count: 4}, {First: 98, Count: 2}}
	want(t, "Taken", slices.Equal(m.Taken(), wanted), true)
	want(t, "Give of parts", m.Give(alloc.Span{First: 49, Count: 2}), true)
	wanted = []alloc.Span{{First: 0, Count: 3}, {First: 48, Count: 1}, {First: 51, Count: 1}, {First: 98, Count: 2}}
	want(t, "Taken", slices.Equal(m.Taken(), wanted), true)
	want(t, "Most", m.Most(), 46)
	want(t, "Free", m.Free(), 93)
}

// TestMostPieces: every other page of the greatest map.
func TestMostPieces(t *testing.T) {
	m := alloc.New(4096)
	for p := 1; p < 4096; p += 2 {
		want(t, "Mark", m.Mark(alloc.Span{First: p, Count: 1}), true)
	}
	l := m.Taken()
	want(t, "Spans", len(l), 2048)
	for i, x := range l {
		want(t, "Span", x, alloc.Span{First: 2*i + 1, Count: 1})
	}
	want(t, "Free", m.Free(), 2048)
	want(t, "Most", m.Most(), 1)
	wantTake(t, m, 2, alloc.Span{}, false)
	want(t, "Give", m.Give(alloc.Span{First: 4095, Count: 1}), true)
	wantTake(t, m, 2, alloc.Span{First: 4094, Count: 2}, true)
}

// TestClone: neither of the two sees what the other one does.
func TestClone(t *testing.T) {
	m := plainOf("##..#.").asMap(t)
	c := m.Clone()
	if c == m {
		t.Fatal("the same Map")
	}
	plainOf("##..#.").wantAlike(t, c)
	m.Take(2)
	m.Give(alloc.Span{First: 0, Count: 1})
	plainOf("##..#.").wantAlike(t, c)
	c.Mark(alloc.Span{First: 5, Count: 1})
	c.Give(alloc.Span{First: 1, Count: 1})
	plainOf(".####.").wantAlike(t, m)
	plainOf("#...##").wantAlike(t, c)
	plainOf("#...##").wantAlike(t, c.Clone().Clone())
	alloc.New(3).Mark(alloc.Span{Count: 3})
	plainOf("...").wantAlike(t, alloc.New(3))
}

// TestResultsAreNew: a list that was returned is the caller's.
func TestResultsAreNew(t *testing.T) {
	p := plainOf("#.##.#")
	m := p.asMap(t)
	a, b := m.Taken(), m.Taken()
	clear(a)
	_ = append(a[:1], alloc.Span{First: 9, Count: 9})
	want(t, "another result", slices.Equal(b, p.taken()), true)
	p.wantAlike(t, m)
}

// TestAllocatedTwice: P11.2, whatever allocates a page, nothing allocates it again until it is freed.
func TestAllocatedTwice(t *testing.T) {
	m := alloc.New(6)
	for p := range 6 {
		wantTake(t, m, 1, alloc.Span{First: p, Count: 1}, true)
	}
	for first := range 6 {
		for count := 1; count <= 6-first; count++ {
			want(t, "Mark", m.Mark(alloc.Span{First: first, Count: count}), false)
			wantTake(t, m, count, alloc.Span{}, false)
		}
	}
	for p := range 6 {
		x := alloc.Span{First: p, Count: 1}
		want(t, "Give", m.Give(x), true)
		want(t, "Give again", m.Give(x), false)
		if p%2 == 0 {
			wantTake(t, m, 1, x, true)
		} else {
			want(t, "Mark", m.Mark(x), true)
		}
		want(t, "Mark again", m.Mark(x), false)
		wantTake(t, m, 1, alloc.Span{}, false)
	}
}

// TestComparable: rule 10.
func TestComparable(t *testing.T) {
	seen := map[alloc.Span]int{{First: 1, Count: 2}: 7}
	want(t, "the Span", seen[alloc.Span{First: 1, Count: 2}], 7)
	want(t, "another Span", seen[alloc.Span{First: 2, Count: 1}], 0)
}
