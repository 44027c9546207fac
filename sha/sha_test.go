package sha_test

import (
	"crypto/sha256"
	"encoding/hex"
	"slices"
	"strings"
	"testing"

	"sealwax/sha"
)

// allBytes returns n bytes that go through all values.
func allBytes(n int) string {
	out := make([]byte, n)
	for i := range out {
		out[i] = byte(i*7 + i/256)
	}
	return string(out)
}

// lengths returns all lengths up to five blocks, and some greater ones.
func lengths() []int {
	var out []int
	for n := range 321 {
		out = append(out, n)
	}
	return append(out, 511, 512, 513, 4095, 4096, 4097, 1<<20)
}

func wantSum(t *testing.T, what string, got sha.Sum, text string) {
	t.Helper()
	if want := sha256.Sum256([]byte(text)); got != sha.Sum(want) {
		t.Errorf("%s (%d bytes): got %x, want %x", what, len(text), got, want)
	}
}

func TestOfKnownTexts(t *testing.T) {
	for _, c := range []struct{ text, want string }{
		{"", "e3b0c44298fc1c149afbf4c8996fb92427ae41e4649b934ca495991b7852b855"},
		{"abc", "ba7816bf8f01cfea414140de5dae2223b00361a396177a9cb410ff61f20015ad"},
		{"abcdbcdecdefdefgefghfghighijhijkijkljklmklmnlmnomnopnopq", "248d6a61d20638b8e5c026930c3e6039a33ce45964ff2167f6ecedd419db06c1"},
		{strings.Repeat("a", 1000000), "cdc76e5c9914fb9281a1c7e284d73e67f1809a48a497200e046d39ccc7112cd0"},
	} {
		if got := sha.Of(c.text).Hex(); got != c.want {
			t.Errorf("%d bytes: got %s, want %s", len(c.text), got, c.want)
		}
	}
}

func TestOfEveryLength(t *testing.T) {
	for _, n := range lengths() {
		text := allBytes(n)
		wantSum(t, "Of", sha.Of(text), text)
		var s sha.State
		s.Add(text)
		wantSum(t, "Sum", s.Sum(), text)
		if s.Len() != n {
			t.Errorf("Len: got %d, want %d", s.Len(), n)
		}
	}
}

func TestOfEveryByte(t *testing.T) {
	for b := range 256 {
		text := string([]byte{byte(b)})
		wantSum(t, "one byte", sha.Of(text), text)
		text = strings.Repeat(text, 130)
		wantSum(t, "one byte, repeated", sha.Of(text), text)
	}
}

func TestOfNothing(t *testing.T) {
	wantSum(t, "no text", sha.Of(), "")
	wantSum(t, "nil list", sha.Of([]string(nil)...), "")
	wantSum(t, "empty text", sha.Of(""), "")
	wantSum(t, "empty texts", sha.Of("", "", ""), "")
	wantSum(t, "empty texts between", sha.Of("", "a", "", "b", ""), "ab")
}

func TestHex(t *testing.T) {
	if got := (sha.Sum{}).Hex(); got != strings.Repeat("0", 64) {
		t.Errorf("zero Sum: got %s", got)
	}
	for b := range 256 {
		for place := range 32 {
			var s sha.Sum
			s[place] = byte(b)
			if got, want := s.Hex(), hex.EncodeToString(s[:]); got != want {
				t.Fatalf("byte %d at %d: got %s, want %s", b, place, got, want)
			}
		}
	}
}

func TestZeroState(t *testing.T) {
	var s sha.State
	wantSum(t, "zero State", s.Sum(), "")
	if s.Len() != 0 {
		t.Errorf("Len: got %d, want 0", s.Len())
	}
	c := s.Clone()
	wantSum(t, "clone of a zero State", c.Sum(), "")
	s.Add().Add("").Add("", "").Add([]string(nil)...)
	wantSum(t, "nothing added", s.Sum(), "")
	if s.Len() != 0 {
		t.Errorf("Len after nothing: got %d, want 0", s.Len())
	}
}

func TestAddReturnsTheSameState(t *testing.T) {
	var s sha.State
	for _, l := range [][]string{nil, {""}, {"a"}, {allBytes(64), allBytes(65)}} {
		if s.Add(l...) != &s {
			t.Errorf("Add of %d texts returned another State", len(l))
		}
	}
}

func TestSumChangesNothing(t *testing.T) {
	for _, n := range lengths()[:200] {
		text, more := allBytes(n), "more of it"
		var s sha.State
		s.Add(text)
		wantSum(t, "first Sum", s.Sum(), text)
		wantSum(t, "second Sum", s.Sum(), text)
		if s.Len() != n {
			t.Errorf("Len after Sum: got %d, want %d", s.Len(), n)
		}
		wantSum(t, "Add after Sum", s.Add(more).Sum(), text+more)
		if s.Len() != n+len(more) {
			t.Errorf("Len after Add: got %d, want %d", s.Len(), n+len(more))
		}
	}
}

func TestCloneGoesItsOwnWay(t *testing.T) {
	for _, n := range []int{0, 1, 55, 56, 63, 64, 65, 119, 120, 128} {
		text := allBytes(n)
		s := new(sha.State).Add(text)
		c := s.Clone()
		if c == s {
			t.Fatal("Clone returned the same State")
		}
		wantSum(t, "fresh clone", c.Sum(), text)
		left, right := strings.Repeat("l", 70), strings.Repeat("r", 9)
		s.Add(left)
		wantSum(t, "clone after an Add to the first", c.Sum(), text)
		if c.Len() != n {
			t.Errorf("Len of the clone: got %d, want %d", c.Len(), n)
		}
		c.Add(right)
		wantSum(t, "first", s.Sum(), text+left)
		wantSum(t, "clone", c.Sum(), text+right)
		if s.Len() != n+70 || c.Len() != n+9 {
			t.Errorf("Len: got %d and %d, want %d and %d", s.Len(), c.Len(), n+70, n+9)
		}
	}
}

// cut divides a text into parts of the given sizes, again and again.
func cut(text string, sizes ...int) []string {
	var out []string
	for i := 0; text != ""; i++ {
		n := min(sizes[i%len(sizes)], len(text))
		out = append(out, text[:n])
		text = text[n:]
	}
	return out
}

func wantParts(t *testing.T, text string, parts []string) {
	t.Helper()
	wantSum(t, "Of in parts", sha.Of(parts...), text)
	var once, often sha.State
	once.Add(parts...)
	for i, p := range parts {
		often.Add(p)
		if i%3 == 0 {
			often.Sum() // asked in between, it must not matter
		}
	}
	wantSum(t, "one Add", once.Sum(), text)
	wantSum(t, "several Adds", often.Sum(), text)
	if once.Len() != len(text) || often.Len() != len(text) {
		t.Errorf("Len: got %d and %d, want %d", once.Len(), often.Len(), len(text))
	}
}

func TestDivisionDoesNotMatter(t *testing.T) {
	for _, n := range []int{1, 2, 55, 56, 63, 64, 65, 119, 120, 128, 129, 300, 1000} {
		text := allBytes(n)
		for _, sizes := range [][]int{{1}, {2}, {3, 0, 5}, {0, 1}, {63}, {64}, {65}, {1, 63}, {63, 1}, {55, 9}, {128}, {64, 1, 128, 0, 7}, {n}} {
			wantParts(t, text, cut(text, sizes...))
		}
	}
}

func TestDivisionInTwo(t *testing.T) {
	for _, n := range []int{64, 130, 200} {
		text := allBytes(n)
		for i := range n + 1 {
			wantParts(t, text, []string{text[:i], text[i:]})
		}
	}
}

// TestListsAreLeftAlone: rule 5 for the list, and for what lies behind it in memory.
func TestListsAreLeftAlone(t *testing.T) {
	all := []string{"a", allBytes(64), "c", "behind", "it"}
	before := slices.Clone(all)
	sha.Of(all[:3]...)
	var s sha.State
	s.Add(all[:3]...)
	s.Sum()
	if !slices.Equal(all, before) {
		t.Errorf("the list changed: %q", all)
	}
	text := strings.Join(before[:3], "")
	for i := range all {
		all[i] = "another one"
	}
	wantSum(t, "after a change of the list", s.Sum(), text)
	wantSum(t, "a clone after it", s.Clone().Add("x").Sum(), text+"x")
}

// TestListsAreTheirElements: rule 7.
func TestListsAreTheirElements(t *testing.T) {
	l := []string{"one", "", "two", allBytes(100)}
	if sha.Of(l...) != sha.Of(l[0], l[1], l[2], l[3]) {
		t.Error("Of")
	}
	var a, b sha.State
	if a.Add(l...).Sum() != b.Add(l[0], l[1], l[2], l[3]).Sum() || a.Len() != b.Len() {
		t.Error("Add")
	}
}

// TestSumsAreComparable: rule 10.
func TestSumsAreComparable(t *testing.T) {
	seen := map[sha.Sum]int{}
	for n := range 200 {
		seen[sha.Of(allBytes(n))] = n
	}
	if len(seen) != 200 || seen[sha.Of(allBytes(77))] != 77 {
		t.Error("sums as keys of a map")
	}
}
