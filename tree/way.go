package tree

import "sealwax/sha"

// hasher is sha.Of, of which nobody knows two texts with the same hash: a weaker one shows what happens to them.
type hasher func(l ...string) sha.Sum

// step is a text that is hashed on the way up, with its hash.
type step struct {
	text string
	sum  sha.Sum
}

// way is all steps from a text, the first one, up to the root, the last one.
type way []step

// rise returns the way up from position i, with the hashes of the neighbours.
func rise(hash hasher, i int, text string, l []sha.Sum) way {
	w := way{hash.step(leaf(text))}
	for _, other := range l {
		next := node(w.root(), other)
		if i&1 == 1 {
			next = node(other, w.root())
		}
		w = append(w, hash.step(next))
		i >>= 1
	}
	return w
}

func (hash hasher) step(text string) step { return step{text, hash(text)} }

// root returns the hash up to which the way has come.
func (w way) root() sha.Sum { return w[len(w)-1].sum }

func clash(hash hasher, i int, a string, as []sha.Sum, b string, bs []sha.Sum) (string, string, bool) {
	if a == b || len(as) != len(bs) || !isPosition(i, len(as)) {
		return "", "", false
	}
	left, right := rise(hash, i, a, as), rise(hash, i, b, bs)
	if left.root() != right.root() {
		return "", "", false
	}
	return meeting(left, right)
}

// meeting returns the two texts by which two ways that differ at first come to the same hash.
func meeting(left, right way) (string, string, bool) {
	for k, x := range left {
		y := right[k]
		if x.text != y.text && x.sum == y.sum {
			return x.text, y.text, true
		}
	}
	return "", "", false
}
