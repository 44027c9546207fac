package model_test

import (
	"math"
	"math/rand"
	"slices"
	"strings"
	"testing"

	"sealwax/api"
	"sealwax/model"
)

// one returns one of a list.
func one[T any](r *rand.Rand, l ...T) T { return l[r.Intn(len(l))] }

// anyName returns one of a few names, so that they meet, or one of more, so that there are too many, or what is none.
func anyName(r *rand.Rand) string {
	switch r.Intn(10) {
	case 0:
		return one(r, "", "a//b", "/", "a b", strings.Repeat("a", 33), "\x00", "caf\u00e9")
	case 1:
		return "box/" + string(rune('a'+r.Intn(26)))
	}
	return one(r, "in", "in", "in", "old", "a/b", strings.Repeat("z", 32))
}

// anyText returns a text of a few words, sometimes a long one, or one that is too long.
func anyText(r *rand.Rand) string {
	switch r.Intn(20) {
	case 0:
		return strings.Repeat("x ", 2000) + strings.Repeat("y", 95+r.Intn(4))
	case 1:
		return ""
	}
	var out strings.Builder
	for range r.Intn(8) {
		out.WriteString(one(r, "cat", "Cat", "dog", "CATS", "7", "abcdefghijklmnopqrstuvwxyz", "\u00e9", "\x00", "e"))
		out.WriteString(one(r, " ", ", ", "\n", "-", "\xff", ""))
	}
	return out.String()
}

func anyWords(r *rand.Rand) []string {
	var out []string
	for range one(r, 0, 1, 1, 1, 1, 2, 2, 3, 8, 9) {
		out = append(out, one(r, "cat", "cat", "cat", "cat", "cat", "dog", "dog", "dog", "cats", "7", "abcdefghijklmnop", "e"))
		if r.Intn(20) == 0 {
			out = append(out, one(r, "", "Cat", "a b", "abcdefghijklmnopq", "\x00"))
		}
	}
	return out
}

func anyFlags(r *rand.Rand) int {
	switch r.Intn(15) {
	case 0:
		return one(r, -1, 32, 64, math.MaxInt, math.MinInt)
	case 1, 2, 3, 4:
		return 0
	}
	return r.Intn(32)
}

func anyUID(r *rand.Rand, p *plain, name string) int {
	b := p.box(name)
	if b == nil || len(b.l) == 0 || r.Intn(8) == 0 {
		return one(r, -1, 0, 1, 2, 3, 4, 5, 6, 300, math.MaxInt, math.MinInt)
	}
	return b.l[r.Intn(len(b.l))].uid
}

// anyOp returns any operation, of which all fields have something, also those that its kind does not use.
func anyOp(r *rand.Rand, p *plain) model.Op {
	o := model.Op{Kind: 1 + r.Intn(13), Box: anyName(r), To: anyName(r), Text: anyText(r), Flags: anyFlags(r), Off: anyFlags(r), Words: anyWords(r)}
	switch r.Intn(12) {
	case 0:
		o.Kind = one(r, 0, -1, 14, 15, 100, math.MaxInt, math.MinInt)
	case 1, 2:
		o.Kind = model.Append
	case 3, 4, 5:
		o.Kind = one(r, model.Copy, model.Move, model.Fetch, model.Flag)
	}
	if o.Kind == model.Delete && r.Intn(3) > 0 {
		o.Kind = model.Create
	}
	if o.Kind == model.Search && r.Intn(2) == 0 {
		o.Box = ""
	}
	o.UID = anyUID(r, p, o.Box)
	return o
}

// anyStep does one operation, also to a copy, and returns that model which is to be gone on with.
func anyStep(t *testing.T, r *rand.Rand, m *model.Model, p *plain) (*model.Model, model.Op, model.Answer) {
	t.Helper()
	if r.Intn(20) == 0 {
		other, q := m.Clone(), p.clone()
		wantAlike(t, other, q)
		if r.Intn(2) == 0 {
			m, other = other, m
		}
		for range 5 {
			o := anyOp(r, q)
			wantDo(t, other, o, q.do(o))
		}
		wantAlike(t, other, q)
	}
	o := anyOp(r, p)
	a := p.do(o)
	given := slices.Clone(o.Words)
	wantDo(t, m, o, a)
	want(t, "the words are unchanged", slices.Equal(o.Words, given), true)
	return m, o, a
}

// TestAny: P19.1 to P19.3, any operations in any order.
func TestAny(t *testing.T) {
	r := rand.New(rand.NewSource(19))
	errors, fine, found := map[api.Errno]int{}, map[int]int{}, 0
	for round := range 150 {
		m, p := model.New(), newPlain()
		begin(t, m, p, round)
		for range 100 {
			var o model.Op
			var a model.Answer
			m, o, a = anyStep(t, r, m, p)
			wantAlike(t, m, p)
			if t.Failed() {
				t.Fatalf("round %d, %v", round, o)
			}
			errors[a.Err]++
			if a.Err == api.OK {
				fine[o.Kind]++
				found += len(a.Hits)
			}
		}
	}
	for kind := 1; kind <= 13; kind++ {
		if fine[kind] < 40 {
			t.Errorf("kind %d succeeds only %d times: the test asks too little", kind, fine[kind])
		}
	}
	for e, least := range map[api.Errno]int{api.ErrArg: 300, api.ErrName: 300, api.ErrThere: 100, api.ErrNone: 100, api.ErrFull: 10, api.ErrBig: 10} {
		if errors[e] < least {
			t.Errorf("error %d only %d times: the test asks too little", e, errors[e])
		}
	}
	if found < 800 {
		t.Errorf("only %d hits: the test asks too little", found)
	}
}

// begin adds two mailboxes, at times with almost all entries that they can have, and at times with almost all others that there can be.
func begin(t *testing.T, m *model.Model, p *plain, round int) {
	t.Helper()
	l := []model.Op{{Kind: model.Create, Box: "in"}, {Kind: model.Create, Box: "old"}}
	if round%10 == 0 {
		for i := range 508 {
			l = append(l, model.Op{Kind: model.Append, Box: l[i%2].Box, Text: "cat"})
		}
	}
	if round%10 == 5 {
		for i := range 13 {
			l = append(l, model.Op{Kind: model.Create, Box: string(rune('A' + i))})
		}
	}
	for _, o := range l {
		if a, wanted := m.Do(o), p.do(o); told(a) != told(wanted) {
			t.Fatalf("%v: got %s, want %s", o, told(a), told(wanted))
		}
	}
}
