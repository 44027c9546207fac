package tree_test

import (
	"crypto/sha256"
	"fmt"
	"math"
	"math/rand"
	"slices"
	"strings"
	"testing"

	"sealwax/sha"
	"sealwax/tree"
)

const deepest = 16

// plainLevels returns all hashes of a tree, height by height, written apart from the program: every position has its text.
func plainLevels(d int, l []string) [][]sha.Sum {
	var row []sha.Sum
	for i := range 1 << d {
		text := ""
		if i < len(l) {
			text = l[i]
		}
		row = append(row, sha256.Sum256([]byte("L"+text)))
	}
	levels := [][]sha.Sum{row}
	for len(row) > 1 {
		var up []sha.Sum
		for i := 0; i < len(row); i += 2 {
			up = append(up, sha256.Sum256(slices.Concat([]byte("N"), row[i][:], row[i+1][:])))
		}
		row = up
		levels = append(levels, row)
	}
	return levels
}

func plainRoot(d int, l []string) sha.Sum { return plainLevels(d, l)[d][0] }

func plainShow(levels [][]sha.Sum, i int) []sha.Sum {
	var out []sha.Sum
	for _, row := range levels[:len(levels)-1] {
		if i%2 == 0 {
			out = append(out, row[i+1])
		} else {
			out = append(out, row[i-1])
		}
		i /= 2
	}
	return out
}

// someTexts returns n texts of several lengths, no two of them alike.
func someTexts(n int) []string {
	var out []string
	for i := range n {
		out = append(out, fmt.Sprintf("%d\x00\xff", i)+strings.Repeat("x", i*i%150))
	}
	return out
}

// textAt returns the text that a tree has at a position.
func textAt(l []string, i int) string {
	if i < len(l) {
		return l[i]
	}
	return ""
}

func wantRoot(t *testing.T, d int, l []string, want sha.Sum) {
	t.Helper()
	if got := tree.Root(d, l...); got != want {
		t.Errorf("depth %d, %d texts: got %s, want %s", d, len(l), got.Hex(), want.Hex())
	}
}

func wantHolds(t *testing.T, want bool, root sha.Sum, i int, text string, l []sha.Sum) {
	t.Helper()
	if got := tree.Holds(root, i, text, l...); got != want {
		t.Errorf("position %d, %d hashes: got %v, want %v", i, len(l), got, want)
	}
}

func wantNoClash(t *testing.T, i int, a string, as []sha.Sum, b string, bs []sha.Sum) {
	t.Helper()
	if x, y, is := tree.Clash(i, a, as, b, bs); x != "" || y != "" || is {
		t.Errorf("position %d, %d and %d hashes: got %q, %q, %v", i, len(as), len(bs), x, y, is)
	}
}

func TestRootKnown(t *testing.T) {
	for _, c := range []struct {
		d    int
		l    []string
		want string
	}{
		{0, nil, "72dfcfb0c470ac255cde83fb8fe38de8a128188e03ea5ba5b2a93adbea1062fa"},
		{0, []string{"abc"}, "37f89c99b89b660a99ee1d6d35c3a1b60e68dd8c4e648e21e69d6cf41c26a002"},
		{1, []string{"a", "b"}, "c32e22e55459c3c8e254b6b151d544c3bb0f8c0b4fb2b7d8c1e0a11d6d96440e"},
		{2, []string{"a", "b", "c"}, "57dfeb6dc9a90653acb27a8185e376cb97648bc68b9aa6cea803f71f8f2deb7c"},
		{16, nil, "13d6b8694428131d04c865996113183023cbdc409191fe7a6b72e53e19c4e6b4"},
		{16, []string{"a"}, "daa2180a71c081bde06cc24a0a1b56f4d33bf95dd33b33d856d128dad3b09ab0"},
	} {
		if got := tree.Root(c.d, c.l...).Hex(); got != c.want {
			t.Errorf("depth %d of %q: got %s, want %s", c.d, c.l, got, c.want)
		}
	}
}

// TestRootOfOne: example 1 of the chapter.
func TestRootOfOne(t *testing.T) {
	for _, text := range []string{"", "a", "L", "\x00", strings.Repeat("ab", 1<<15)} {
		wantRoot(t, 0, []string{text}, sha.Of("L", text))
		wantRoot(t, 0, []string{text, "more"}, sha.Of("L", text))
	}
}

// TestRootEveryCount: all others are empty, additional texts are ignored.
func TestRootEveryCount(t *testing.T) {
	for d := range 7 {
		for n := range 1<<d + 4 {
			l := someTexts(n)
			wantRoot(t, d, l, plainRoot(d, l))
			wantRoot(t, d, append(l, "", ""), plainRoot(d, l))
		}
	}
}

func TestRootDeepest(t *testing.T) {
	for _, n := range []int{0, 1, 2, 3, 1000, 1<<16 - 1, 1 << 16} {
		l := someTexts(n)
		wantRoot(t, deepest, l, plainRoot(deepest, l))
	}
	l := someTexts(1<<16 + 5)
	wantRoot(t, deepest, l, plainRoot(deepest, l[:1<<16]))
}

func TestDepthIsLimited(t *testing.T) {
	l := someTexts(5)
	for _, d := range []int{-1, -2, -16, math.MinInt, math.MinInt + 1} {
		wantRoot(t, d, l, plainRoot(0, l))
		for _, i := range []int{-1, 0, 1, 2} {
			if got := tree.Show(d, i, l...); len(got) != 0 {
				t.Errorf("depth %d: %d hashes", d, len(got))
			}
		}
	}
	want := plainLevels(deepest, l)
	for _, d := range []int{17, 18, 32, 63, 64, 65, 1 << 32, math.MaxInt} {
		wantRoot(t, d, l, want[deepest][0])
		for _, i := range []int{0, 3, 4, 1<<16 - 1} {
			if got := tree.Show(d, i, l...); !slices.Equal(got, plainShow(want, i)) {
				t.Errorf("depth %d, position %d: other hashes", d, i)
			}
		}
		if got := tree.Show(d, 1<<16, l...); len(got) != 0 {
			t.Errorf("depth %d: %d hashes", d, len(got))
		}
	}
}

// TestRootTellsTreesApart: another text, order or depth makes another root.
func TestRootTellsTreesApart(t *testing.T) {
	seen := map[sha.Sum]string{}
	for d := range 6 {
		for _, l := range [][]string{nil, {"a"}, {"b"}, {"", "a"}, {"a", "b"}, {"b", "a"}, {"a", "a"}, {"", "", "", "a"}, {"a", "b", "c", "d"}, {"c", "d", "a", "b"}, {"ab"}} {
			if len(l) > 1<<d {
				continue
			}
			what := fmt.Sprintf("depth %d of %q", d, l)
			root := tree.Root(d, l...)
			if other, ok := seen[root]; ok {
				t.Errorf("%s has the root of %s", what, other)
			}
			seen[root] = what
		}
	}
}

// TestShowEveryPosition: P7.2 too, what Show returns holds.
func TestShowEveryPosition(t *testing.T) {
	for d := range 6 {
		for n := range 1<<d + 3 {
			l := someTexts(n)
			levels := plainLevels(d, l)
			for i := range 1 << d {
				got := tree.Show(d, i, l...)
				if len(got) != d || !slices.Equal(got, plainShow(levels, i)) {
					t.Fatalf("depth %d, %d texts, position %d: other hashes", d, n, i)
				}
				wantHolds(t, true, tree.Root(d, l...), i, textAt(l, i), got)
			}
		}
	}
}

func TestShowDeepest(t *testing.T) {
	for _, n := range []int{0, 1, 1000, 1 << 16, 1<<16 + 3} {
		l := someTexts(n)
		levels := plainLevels(deepest, l)
		for _, i := range []int{0, 1, 2, 999, 1000, 1 << 15, 1<<16 - 2, 1<<16 - 1} {
			got := tree.Show(deepest, i, l...)
			if !slices.Equal(got, plainShow(levels, i)) {
				t.Fatalf("%d texts, position %d: other hashes", n, i)
			}
			wantHolds(t, true, levels[deepest][0], i, textAt(l, i), got)
		}
	}
}

func TestShowNoSuchPosition(t *testing.T) {
	for d := range deepest + 1 {
		l := someTexts(1<<min(d, 4) + 2)
		for _, i := range []int{-1, -2, math.MinInt, 1 << d, 1<<d + 1, 1 << 17, 1 << 32, math.MaxInt} {
			if got := tree.Show(d, i, l...); len(got) != 0 {
				t.Errorf("depth %d, position %d: %d hashes", d, i, len(got))
			}
		}
	}
}

// TestHoldsNothingElse: another text, root, position, number of hashes or bit of one.
func TestHoldsNothingElse(t *testing.T) {
	for d := range 5 {
		l := someTexts(1 << d)
		root := tree.Root(d, l...)
		for i := range 1 << d {
			show := tree.Show(d, i, l...)
			for j := range 1 << d {
				wantHolds(t, i == j, root, j, l[i], show)
				wantHolds(t, i == j, root, i, l[j], show)
			}
			for _, text := range []string{"", l[i] + "\x00", l[i][1:], "L" + l[i]} {
				wantHolds(t, false, root, i, text, show)
			}
			wantHolds(t, false, sha.Sum{}, i, l[i], show)
			wantHolds(t, false, root, i, l[i], append(slices.Clone(show), sha.Sum{}))
			if d > 0 {
				wantHolds(t, false, root, i, l[i], show[:d-1])
				wantHolds(t, false, root, i, l[i], show[1:])
				wantHolds(t, false, root, i, l[i], nil)
			}
			if d > 1 {
				back := slices.Clone(show)
				slices.Reverse(back)
				wantHolds(t, false, root, i, l[i], back)
			}
		}
	}
}

func TestHoldsNoChangedBit(t *testing.T) {
	l := someTexts(6)
	root := tree.Root(3, l...)
	show := tree.Show(3, 5, l...)
	for bit := range 256 {
		mask := byte(1 << (bit % 8))
		other := root
		other[bit/8] ^= mask
		wantHolds(t, false, other, 5, l[5], show)
		for k := range show {
			changed := slices.Clone(show)
			changed[k][bit/8] ^= mask
			wantHolds(t, false, root, 5, l[5], changed)
		}
	}
	wantHolds(t, true, root, 5, l[5], show)
}

// chain returns hashes and the root that they lead to from position i, for any number of them.
func chain(i, n int, text string) (sha.Sum, []sha.Sum) {
	root := sha.Of("L", text)
	var l []sha.Sum
	for k := range n {
		other := sha.Of(fmt.Sprint(k))
		l = append(l, other)
		first, second := root, other
		if k < 63 && i>>k&1 == 1 {
			first, second = other, root
		}
		root = sha.Of("N", string(first[:]), string(second[:]))
	}
	return root, l
}

// TestHoldsOnlyPositions: hashes that lead to the root prove nothing if the tree has no such position, or there is no such tree.
func TestHoldsOnlyPositions(t *testing.T) {
	for n := range 80 {
		for _, i := range []int{0, 1, 2, 3, 1 << 15, 1<<16 - 1, 1 << 16, 1 << 17} {
			root, l := chain(i, n, "text")
			wantHolds(t, n <= deepest && i < 1<<n, root, i, "text", l)
		}
		root, l := chain(0, n, "text")
		for _, i := range []int{1 << min(n, 62), 2 << min(n, 61), 1 << 32, -1 << 62, math.MinInt} {
			wantHolds(t, false, root, i, "text", l)
		}
		root, l = chain(math.MaxInt, n, "text")
		for _, i := range []int{-1, math.MaxInt} {
			wantHolds(t, false, root, i, "text", l)
		}
	}
}

// TestMarksDiffer: a text is never taken for two neighbours, nor the other way round.
func TestMarksDiffer(t *testing.T) {
	a, b := sha.Of("L", "a"), sha.Of("L", "b")
	both := string(a[:]) + string(b[:])
	root := tree.Root(1, "a", "b")
	for _, text := range []string{both, "N" + both, both[:32], ""} {
		wantHolds(t, false, root, 0, text, nil)
		wantNoClash(t, 0, text, nil, "a", nil)
	}
	if tree.Root(0, both) == root || tree.Root(0, "N"+both) == root {
		t.Error("a text has the root of two")
	}
}

// TestNoClash: what is not proven twice, or is no other text.
func TestNoClash(t *testing.T) {
	for d := range 5 {
		l := someTexts(1 << d)
		for i := range 1 << d {
			show := tree.Show(d, i, l...)
			wantNoClash(t, i, l[i], show, l[i], show)
			wantNoClash(t, i, l[i], show, l[i]+"x", show)
			wantNoClash(t, i, l[i], show, "", show)
			for j := range 1 << d {
				wantNoClash(t, i, l[i], show, l[j], tree.Show(d, j, l...))
				wantNoClash(t, i, l[i], show, l[i], tree.Show(d, j, l...))
			}
			for _, e := range []int{d - 1, d + 1} {
				wantNoClash(t, i, l[i], show, "other", tree.Show(e, i, l...))
				wantNoClash(t, i, "other", tree.Show(e, i, l...), l[i], show)
			}
		}
	}
	for _, i := range []int{-1, 1, 2, math.MinInt, math.MaxInt} {
		wantNoClash(t, i, "a", nil, "b", nil)
		wantNoClash(t, i, "a", nil, "a", nil)
	}
	for _, n := range []int{16, 17, 64, 1000} {
		wantNoClash(t, 0, "a", make([]sha.Sum, n), "b", make([]sha.Sum, n))
		wantNoClash(t, 0, "a", make([]sha.Sum, n), "b", make([]sha.Sum, 16))
	}
}

// TestProvenIsTheText: P7.3, of whatever is offered for a position of a root, only the text itself is proven.
func TestProvenIsTheText(t *testing.T) {
	r := rand.New(rand.NewSource(4))
	for range 2000 {
		d := r.Intn(6)
		l := someTexts(r.Intn(1<<d + 1))
		i := r.Intn(1 << d)
		show := tree.Show(d, i, l...)
		text, other := textAt(l, i), slices.Clone(show)
		offered := textAt(l, r.Intn(1<<d))
		if d > 0 && r.Intn(2) == 0 {
			other[r.Intn(d)] = sha.Of(fmt.Sprint(r.Int()))
		}
		if tree.Holds(tree.Root(d, l...), i, offered, other...) && offered != text {
			if a, b, is := tree.Clash(i, text, show, offered, other); !is || a == b || sha.Of(a) != sha.Of(b) {
				t.Errorf("%q and %q are proven, but there is no clash", text, offered)
			}
		} else {
			wantNoClash(t, i, text, show, offered, other)
		}
	}
}

// TestListsAreLeftAlone: they are not changed, nor is what lies behind them, and what is returned is new.
func TestListsAreLeftAlone(t *testing.T) {
	l := someTexts(8)
	kept := slices.Clone(l)
	tree.Root(3, l[:3]...)
	tree.Root(1, l[:5]...)
	first := tree.Show(3, 1, l[:3]...)
	second := tree.Show(3, 1, l[:3]...)
	if !slices.Equal(l, kept) {
		t.Error("a list of texts was changed")
	}
	first[0] = sha.Sum{}
	if !slices.Equal(second, tree.Show(3, 1, l[:3]...)) {
		t.Error("two results share memory")
	}
	hashes := append(slices.Clone(second), sha.Of("a"), sha.Of("b"))
	same := slices.Clone(hashes)
	tree.Holds(sha.Sum{}, 1, "a", hashes[:3]...)
	tree.Clash(1, "a", hashes[:3], "b", hashes[:3])
	tree.Clash(1, "a", hashes[:2], "b", hashes[1:3])
	if !slices.Equal(hashes, same) {
		t.Error("a list of hashes was changed")
	}
}
