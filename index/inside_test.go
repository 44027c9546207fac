package index

import (
	"slices"
	"testing"

	"sealwax/api"
	"sealwax/suite"
)

// taken puts something under the labels of a word, as another word would if its labels were the same. No two words are known for which this happens.
func taken(x *Index, w string, l ...int) {
	for _, n := range l {
		x.postings[x.label(w, n)] = block{}
	}
}

// freed removes this again, since Read does not accept it.
func freed(x *Index, w string, l ...int) {
	for _, n := range l {
		delete(x.postings, x.label(w, n))
	}
}

func wantCounter(t *testing.T, x *Index, w string, next, first int, skipped ...int) {
	t.Helper()
	if c := x.counters[w]; c.next != next || c.first != first || !slices.Equal(c.skipped, skipped) {
		t.Errorf("%q: got %v, want %d, %d, %v", w, c, next, first, skipped)
	}
}

func wantTexts(t *testing.T, x *Index, w string, wanted ...int) {
	t.Helper()
	if got := x.Find(w); !slices.Equal(got, wanted) {
		t.Errorf("Find %q: got %v, want %v", w, got, wanted)
	}
}

func twoSuites() []*suite.Suite { return []*suite.Suite{suite.Real("a key"), suite.Ideal("a tape")} }

// TestSkipped: a label that exists is never used, and the posting has the next one.
func TestSkipped(t *testing.T) {
	for _, s := range twoSuites() {
		x := New(s)
		taken(x, "a", 0, 2, 3, 4, 7)
		for id := range 3 {
			x.Add(id, "a", "b")
		}
		x.Del(1, "a")
		wantCounter(t, x, "a", 9, 0, 0, 2, 3, 4, 7)
		wantCounter(t, x, "b", 3, 0)
		wantTexts(t, x, "a", 0, 2)
		wantTexts(t, x, "b", 0, 1, 2)
		for _, n := range []int{0, 2, 3, 4, 7} {
			if x.postings[x.label("a", n)] != (block{}) {
				t.Errorf("what was there under %d has changed", n)
			}
		}
		if x.Len() != 5+4+3 {
			t.Errorf("Len: %d", x.Len())
		}
		freed(x, "a", 0, 2, 3, 4, 7)
		packed := x.Pack()
		y, e := Read(s, packed)
		if e != api.OK || y.Pack() != packed {
			t.Fatalf("Read: error %d", e)
		}
		wantCounter(t, y, "a", 9, 0, 0, 2, 3, 4, 7)
		wantTexts(t, y, "a", 0, 2)
	}
}

// TestSkippedAreNotMasked: nothing but its label is asked for an n that is skipped.
func TestSkippedAreNotMasked(t *testing.T) {
	s := suite.Ideal("a tape")
	x := New(s)
	taken(x, "a", 0, 1)
	drawn := s.Drawn()
	x.Add(5, "a")
	if s.Drawn() != drawn+16 {
		t.Errorf("%d bytes were drawn", s.Drawn()-drawn)
	}
	if s.Label("a", 2, maskPart); s.Drawn() != drawn+16 {
		t.Error("the mask of the third was not asked for")
	}
}

// TestFreshSkips: what is made anew skips too, what it replaces does not, and what was skipped before is forgotten.
func TestFreshSkips(t *testing.T) {
	for _, s := range twoSuites() {
		x := New(s)
		taken(x, "a", 1, 4, 6, 7)
		for id := range 3 {
			x.Add(9-id, "a")
		}
		wantCounter(t, x, "a", 4, 0, 1)
		if n := x.Fresh("a"); n != 0 || x.Len() != 4+3 {
			t.Errorf("Fresh: %d, Len: %d", n, x.Len())
		}
		wantCounter(t, x, "a", 10, 4, 4, 6, 7)
		wantTexts(t, x, "a", 7, 8, 9)
		x.Del(8, "a")
		if n := x.Fresh("a"); n != 2 || x.Len() != 4+2 {
			t.Errorf("Fresh: %d, Len: %d", n, x.Len())
		}
		wantCounter(t, x, "a", 13, 11)
		wantTexts(t, x, "a", 7, 9)
		for _, n := range []int{1, 4, 6, 7} {
			if !x.has(x.label("a", n)) {
				t.Errorf("what was there under %d was removed", n)
			}
		}
		freed(x, "a", 1, 4, 6, 7)
		if y, e := Read(s, x.Pack()); e != api.OK || y.Pack() != x.Pack() {
			t.Errorf("Read: error %d", e)
		}
	}
}

// TestSkippedApart: a copy skips others without the first one seeing it.
func TestSkippedApart(t *testing.T) {
	for most := range 9 {
		x := New(suite.Real("a key"))
		for n := range most {
			taken(x, "a", n)
		}
		x.Add(1, "a")
		c := x.Clone()
		taken(x, "a", most+1)
		x.Add(2, "a")
		c.Add(2, "a")
		taken(c, "a", most+2)
		c.Add(3, "a")
		all := []int{}
		for n := range most {
			all = append(all, n)
		}
		wantCounter(t, x, "a", most+3, 0, append(slices.Clone(all), most+1)...)
		wantCounter(t, c, "a", most+4, 0, append(slices.Clone(all), most+2)...)
		wantTexts(t, x, "a", 1, 2)
		wantTexts(t, c, "a", 1, 2, 3)
	}
}

// TestIsWhole: each n that is used has its posting, and there is no other one.
func TestIsWhole(t *testing.T) {
	x := New(suite.Real("a key"))
	x.Add(5, "a")
	if !x.isWhole() {
		t.Error("an index is not accepted")
	}
	x.counters["b"] = counter{first: 3, next: 3}
	if !x.isWhole() {
		t.Error("a word without postings is not accepted")
	}
	x.counters["b"] = counter{first: 3, next: 4}
	if x.isWhole() {
		t.Error("a posting is missing")
	}
	x.Add(5, "c")
	if x.isWhole() {
		t.Error("another word's posting is in its place")
	}
}
