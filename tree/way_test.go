package tree

import (
	"crypto/sha256"
	"fmt"
	"math/rand"
	"slices"
	"strings"
	"testing"

	"sealwax/sha"
)

// weak is a hash with few values, so that there are texts that clash.
func weak(values byte) hasher {
	return func(l ...string) sha.Sum {
		whole := sha256.Sum256([]byte(strings.Join(l, "")))
		return sha.Sum{5: whole[0] % values}
	}
}

// plainWay returns what is hashed on the way up, written apart from the program.
func plainWay(hash hasher, i int, text string, l []sha.Sum) []string {
	out := []string{"L" + text}
	for k, other := range l {
		own := hash(out[k])
		if i/(1<<k)%2 == 0 {
			out = append(out, "N"+string(own[:])+string(other[:]))
		} else {
			out = append(out, "N"+string(other[:])+string(own[:]))
		}
	}
	return out
}

// plainClash returns what a clash must be: of both ways to one root, the first pair that differs and has the same hash.
func plainClash(hash hasher, i int, a string, as []sha.Sum, b string, bs []sha.Sum) (string, string, bool) {
	x, y := plainWay(hash, i, a, as), plainWay(hash, i, b, bs)
	if a == b || len(x) != len(y) || hash(x[len(x)-1]) != hash(y[len(y)-1]) {
		return "", "", false
	}
	at := 0
	for x[at] == y[at] || hash(x[at]) != hash(y[at]) {
		at++
	}
	return x[at], y[at], true
}

func someHashes(r *rand.Rand, hash hasher, n int) []sha.Sum {
	var out []sha.Sum
	for range n {
		out = append(out, hash(fmt.Sprint(r.Int())))
	}
	return out
}

// TestClashOfWeakHash: P7.3, two texts that are proven at one position of one root are equal, or there is a clash.
func TestClashOfWeakHash(t *testing.T) {
	r := rand.New(rand.NewSource(3))
	at := map[string]int{}
	for _, values := range []byte{1, 2, 3, 5, 20} {
		hash := weak(values)
		for range 4000 {
			n := r.Intn(6)
			i := r.Intn(1 << n)
			a, b := fmt.Sprint(r.Intn(20)), fmt.Sprint(r.Intn(20))
			as := someHashes(r, hash, n)
			bs := slices.Clone(as)
			if r.Intn(2) == 0 {
				bs = someHashes(r, hash, max(0, n+r.Intn(4)/3))
			}
			x, y, is := clash(hash, i, a, as, b, bs)
			wantX, wantY, want := plainClash(hash, i, a, as, b, bs)
			if x != wantX || y != wantY || is != want {
				t.Fatalf("%d values, position %d, %q and %q: got %q, %q, %v, want %q, %q, %v", values, i, a, b, x, y, is, wantX, wantY, want)
			}
			if is && (x == y || hash(x) != hash(y)) {
				t.Fatalf("%q and %q are no clash", x, y)
			}
			if is {
				at[x[:1]]++
			}
		}
	}
	if at["L"] < 100 || at["N"] < 100 {
		t.Errorf("too few clashes were seen: %v", at)
	}
}

// TestClashFromBelow: it is found at the texts themselves, further up, and at the root.
func TestClashFromBelow(t *testing.T) {
	for height := range 5 {
		sums := map[string]byte{} // which texts have which hash: all have their own, but for two of this height
		hash := func(l ...string) sha.Sum {
			s := strings.Join(l, "")
			if sums[s] == 0 {
				sums[s] = byte(len(sums) + 1)
			}
			return sha.Sum{sums[s]}
		}
		same := make([]sha.Sum, 4)
		left, right := plainWay(hash, 6, "a", same), plainWay(hash, 6, "b", same)
		hash(left[height])
		sums[right[height]] = sums[left[height]]
		x, y, is := clash(hash, 6, "a", same, "b", same)
		if x != left[height] || y != right[height] || !is {
			t.Errorf("height %d: got %q, %q, %v", height, x, y, is)
		}
		x, y, is = clash(hash, 6, "b", same, "a", same)
		if x != right[height] || y != left[height] || !is {
			t.Errorf("height %d, exchanged: got %q, %q, %v", height, x, y, is)
		}
	}
}

// TestNoClashOfWeakHash: what is not proven in this way, even if all hashes are the same.
func TestNoClashOfWeakHash(t *testing.T) {
	hash := weak(1)
	for n := range 20 {
		l := make([]sha.Sum, n)
		for _, c := range []struct {
			i      int
			a, b   string
			as, bs []sha.Sum
			want   bool
		}{
			{0, "a", "b", l, l, n <= maxDepth},
			{1<<n - 1, "a", "b", l, l, n <= maxDepth},
			{0, "a", "a", l, l, false},
			{0, "a", "a", l, append(l[:n:n], sha.Sum{}), false},
			{0, "a", "b", l, append(l[:n:n], sha.Sum{}), false},
			{0, "a", "b", append(l[:n:n], sha.Sum{}), l, false},
			{1 << n, "a", "b", l, l, false},
			{-1, "a", "b", l, l, false},
		} {
			x, y, is := clash(hash, c.i, c.a, c.as, c.b, c.bs)
			if is != c.want || is != (x == "La" && y == "Lb") || !is && x+y != "" {
				t.Errorf("position %d, %d and %d hashes: got %q, %q, %v", c.i, len(c.as), len(c.bs), x, y, is)
			}
		}
	}
}
