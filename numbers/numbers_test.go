package numbers_test

import (
	"math"
	"math/rand"
	"slices"
	"testing"

	"sealwax/numbers"
)

func want(t *testing.T, got, wanted []int) {
	t.Helper()
	if !slices.Equal(got, wanted) {
		t.Errorf("got %v, want %v", got, wanted)
	}
}

func TestOf(t *testing.T) {
	want(t, numbers.Of(map[int]string{7: "b", 3: "c", -1: "a"}), []int{-1, 3, 7})
	want(t, numbers.Of(map[int]*int{math.MaxInt: nil, 0: nil, math.MinInt: nil}), []int{math.MinInt, 0, math.MaxInt})
	want(t, numbers.Of(map[int][]int{5: nil}), []int{5})
	want(t, numbers.Of(map[int]bool{}), nil)
	want(t, numbers.Of[int](nil), nil)
}

func TestOfAny(t *testing.T) {
	r := rand.New(rand.NewSource(1))
	for k := range 300 {
		m, set := map[int]int{}, []int{}
		for range k {
			n := r.Intn(200) - 100
			m[n] = r.Int()
			set = append(set, n)
		}
		slices.Sort(set)
		want(t, numbers.Of(m), slices.Compact(set))
		want(t, numbers.Of(m), numbers.Of(m))
	}
}
