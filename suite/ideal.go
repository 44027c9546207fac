package suite

import (
	"maps"
	"strings"

	"sealwax/aead"
	"sealwax/sha"
)

// ideal is a tape and a memory: nothing is computed, so that only what it gave out itself is accepted.
type ideal struct {
	tape   string
	drawn  int
	seals  map[At]seal
	labels map[named]label
	macs   map[sha.Sum]made
}

// seal is what was sealed at a place, and what came of it.
type seal struct{ ad, plain, c string }

// named is what has a label.
type named struct {
	word    string
	n, part int
}

type label [16]byte

// made is the text that a Mac was made of.
type made struct{ text string }

// blank returns an ideal that remembers nothing yet.
func blank(tape string) ideal {
	if tape == "" {
		tape = "\x00"
	}
	return ideal{tape: tape, seals: map[At]seal{}, labels: map[named]label{}, macs: map[sha.Sum]made{}}
}

func (d *ideal) copied() ideal {
	c := *d
	c.seals, c.labels, c.macs = maps.Clone(d.seals), maps.Clone(d.labels), maps.Clone(d.macs)
	return c
}

// draw takes the next n bytes of the tape.
func (d *ideal) draw(n int) string {
	out := make([]byte, n)
	for i := range out {
		out[i] = d.tape[(d.drawn+i)%len(d.tape)]
	}
	d.drawn += n
	return string(out)
}

// hide remembers plain at a place, and returns bytes that have nothing to do with it.
func (d *ideal) hide(at At, ad, plain string) string {
	c := d.draw(len(plain) + aead.Extra)
	d.seals[at] = seal{ad, plain, c}
	return c
}

func (d *ideal) recall(at At, ad, c string) (string, bool) {
	x, ok := d.seals[at]
	if !ok || x.ad != ad || x.c != c {
		return "", false
	}
	return x.plain, true
}

// labelOf returns the label that was given before, or a new one: its number makes it differ from all others.
func (d *ideal) labelOf(x named) label {
	if old, ok := d.labels[x]; ok {
		return old
	}
	var fresh label
	copy(fresh[:], number(len(d.labels))+d.draw(8))
	d.labels[x] = fresh
	return fresh
}

// sign returns a new hash, also for texts that have one: its number makes it differ from all others.
func (d *ideal) sign(l ...string) sha.Sum {
	var sum sha.Sum
	copy(sum[:], number(len(d.macs))+d.draw(24))
	d.macs[sum] = made{strings.Join(l, "")}
	return sum
}

func (d *ideal) signed(x sha.Sum, l ...string) bool {
	m, ok := d.macs[x]
	return ok && m.text == strings.Join(l, "")
}
