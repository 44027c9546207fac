package model_test

import (
	"fmt"
	"math"
	"slices"
	"strconv"
	"strings"
	"testing"

	"sealwax/api"
	"sealwax/model"
)

// wantFound checks which entries a search finds, each as name and UID.
func wantFound(t *testing.T, m *model.Model, o model.Op, wanted ...string) {
	t.Helper()
	a := m.Do(o)
	var got []string
	for _, h := range a.Hits {
		got = append(got, h.Box+" "+strconv.Itoa(h.UID))
	}
	if a.Err != api.OK || !slices.Equal(got, wanted) {
		t.Errorf("%v: got %q, error %d, want %q", o, got, a.Err, wanted)
	}
	want(t, "N", a.N, len(wanted))
}

// TestSearch: all words, in any order, in the mails of all mailboxes or of one.
func TestSearch(t *testing.T) {
	m := of(t, "b", "a", "a.b", "a/b", "B")
	add(t, m, "b", 1, "two cats", "a DOG, two cats", "")
	add(t, m, "a", 1, "cats; dog", "cat", "dogs cats-2")
	add(t, m, "a.b", 1, "Cats")
	add(t, m, "a/b", 1, "cats")
	add(t, m, "B", 1, "dog:CATS")
	wantFound(t, m, model.Op{Kind: model.Search, Words: []string{"cats"}}, "B 1", "a 1", "a 3", "a.b 1", "a/b 1", "b 1", "b 2")
	wantFound(t, m, model.Op{Kind: model.Search, Words: []string{"cats", "dog"}}, "B 1", "a 1", "b 2")
	wantFound(t, m, model.Op{Kind: model.Search, Words: []string{"dog", "cats", "dog", "cats"}}, "B 1", "a 1", "b 2")
	wantFound(t, m, model.Op{Kind: model.Search, Words: []string{"dog", "cats", "two"}}, "b 2")
	wantFound(t, m, model.Op{Kind: model.Search, Words: []string{"cats"}, Box: "b"}, "b 1", "b 2")
	wantFound(t, m, model.Op{Kind: model.Search, Words: []string{"cats"}, Box: "a"}, "a 1", "a 3")
	wantFound(t, m, model.Op{Kind: model.Search, Words: []string{"2"}}, "a 3")
	wantFound(t, m, model.Op{Kind: model.Search, Words: []string{"two"}, Box: "a"})
	wantFound(t, m, model.Op{Kind: model.Search, Words: []string{"mouse"}})
	wantFound(t, m, model.Op{Kind: model.Search, Words: []string{"dog", "mouse"}})
	wantFound(t, m, model.Op{Kind: model.Search, Words: []string{"do"}})
	wantDo(t, m, model.Op{Kind: model.Rename, Box: "a", To: "c"}, model.Answer{N: 2})
	wantFound(t, m, model.Op{Kind: model.Search, Words: []string{"dog"}, UID: 9, Off: 99, To: "none", Text: "x"}, "B 1", "b 2", "c 1")
}

// TestSearchFlags: an entry has all of them, and maybe more.
func TestSearchFlags(t *testing.T) {
	m := of(t, "in")
	for flags := range 32 {
		wantDo(t, m, model.Op{Kind: model.Append, Box: "in", Text: "cat", Flags: flags}, model.Answer{N: flags + 1})
	}
	for asked := range 32 {
		var wanted []model.Hit
		for flags := range 32 {
			if flags|asked == flags {
				wanted = append(wanted, model.Hit{Box: "in", UID: flags + 1, Flags: flags})
			}
		}
		wantDo(t, m, model.Op{Kind: model.Search, Words: []string{"cat"}, Flags: asked}, hits(wanted...))
		wantDo(t, m, model.Op{Kind: model.Search, Words: []string{"cat"}, Box: "in", Flags: asked, Off: asked}, hits(wanted...))
		wantDo(t, m, model.Op{Kind: model.Search, Words: []string{"dog"}, Flags: asked}, model.Answer{})
	}
}

// TestSearchErrors: ErrArg for words or flags comes before ErrName.
func TestSearchErrors(t *testing.T) {
	m := of(t, "in")
	add(t, m, "in", 1, "cat a b c d e f g h i")
	wrong := [][]string{nil, {}, {""}, {"Cat"}, {"a b"}, {"cat", ""}, {"cat", "caf\u00e9"}, {"cat", "\x00"}, {strings.Repeat("a", 17)}, {"a", "b", "c", "d", "e", "f", "g", "h", "i"}, strings.Fields(strings.Repeat("cat ", 9))}
	for _, name := range []string{"", "in", "none", "a b"} {
		for _, l := range wrong {
			wantDo(t, m, model.Op{Kind: model.Search, Box: name, Words: l}, failed(api.ErrArg))
		}
		for _, flags := range []int{32, 33, 64, -1, -32, math.MaxInt, math.MinInt} {
			wantDo(t, m, model.Op{Kind: model.Search, Box: name, Words: []string{"cat"}, Flags: flags}, failed(api.ErrArg))
			wantDo(t, m, model.Op{Kind: model.Search, Box: name, Flags: flags}, failed(api.ErrArg))
		}
	}
	for _, name := range []string{"none", "a b", "IN", "/", " "} {
		wantDo(t, m, model.Op{Kind: model.Search, Box: name, Words: []string{"cat"}}, failed(api.ErrName))
		wantDo(t, m, model.Op{Kind: model.Search, Box: name, Words: []string{"cat"}, Flags: 31}, failed(api.ErrName))
	}
	for _, l := range [][]string{{"a", "b", "c", "d", "e", "f", "g", "h"}, strings.Fields(strings.Repeat("cat ", 8)), {"cat"}} {
		wantDo(t, m, model.Op{Kind: model.Search, Words: l}, hits(model.Hit{Box: "in", UID: 1}))
	}
}

// TestSearchWords: only the first 64 words of a text count, and the first 16 bytes of each.
func TestSearchWords(t *testing.T) {
	m := of(t, "in")
	var text strings.Builder
	for i := range 70 {
		fmt.Fprintf(&text, "w%02d ", i)
	}
	add(t, m, "in", 1, text.String(), "abcdefghijklmnopqrst")
	wantFound(t, m, model.Op{Kind: model.Search, Words: []string{"w63"}}, "in 1")
	wantFound(t, m, model.Op{Kind: model.Search, Words: []string{"w64"}})
	wantFound(t, m, model.Op{Kind: model.Search, Words: []string{"w00", "w64"}})
	wantFound(t, m, model.Op{Kind: model.Search, Words: []string{"abcdefghijklmnop"}}, "in 2")
	wantFound(t, m, model.Op{Kind: model.Search, Words: []string{"abcdefghijklmno"}})
}
