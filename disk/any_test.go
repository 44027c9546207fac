package disk_test

import (
	"math/rand"
	"slices"
	"testing"

	"sealwax/api"
	"sealwax/disk"
)

// plain is a disk that is written apart from the program: a list of what waits, and all steps.
type plain struct {
	stable      map[int]string
	waits       []disk.Op
	pages, room int
	down, armed bool
	since       int // steps since Arm
	steps       int // that Arm permits
	mask        uint64
	all         []disk.Op
	states      []map[int]string
}

func newPlain(pages, room int) *plain {
	p := &plain{stable: map[int]string{}, pages: pages, room: room}
	for i := range pages {
		p.stable[i] = zeros
	}
	return p
}

func copied(m map[int]string) map[int]string {
	out := map[int]string{}
	for k, v := range m {
		out[k] = v
	}
	return out
}

func (p *plain) clone() *plain {
	c := *p
	c.stable = copied(p.stable)
	c.waits = append([]disk.Op{}, p.waits...)
	c.all = append([]disk.Op{}, p.all...)
	c.states = nil
	for _, s := range p.states {
		c.states = append(c.states, copied(s))
	}
	return &c
}

func (p *plain) step(o disk.Op) api.Errno {
	if p.down {
		return api.ErrCrash
	}
	if o.Kind == disk.Write && (p.stable[o.Page] == "" || len(o.Data) != 256) {
		return api.ErrArg
	}
	if p.armed && p.since == p.steps {
		for i := 0; i < len(p.waits) && i < 64; i++ {
			if p.mask&(1<<uint(i)) != 0 {
				p.stable[p.waits[i].Page] = p.waits[i].Data
			}
		}
		p.waits, p.down = nil, true
		return api.ErrCrash
	}
	p.since++
	p.all = append(p.all, o)
	room := 0
	if o.Kind == disk.Write {
		p.waits = append(p.waits, o)
		room = p.room
	}
	for len(p.waits) > room {
		p.stable[p.waits[0].Page] = p.waits[0].Data
		p.waits = p.waits[1:]
	}
	return api.OK
}

func (p *plain) read(at int) (string, api.Errno) {
	if p.down {
		return "", api.ErrCrash
	}
	if p.stable[at] == "" {
		return "", api.ErrArg
	}
	for i := len(p.waits) - 1; i >= 0; i-- {
		if p.waits[i].Page == at {
			return p.waits[i].Data, api.OK
		}
	}
	return p.stable[at], api.OK
}

func (p *plain) wantAlike(t *testing.T, d *disk.Disk) {
	t.Helper()
	if d.Pages() != p.pages || d.Crashed() != p.down || d.Steps() != len(p.all) || d.Cached() != len(p.waits) {
		t.Fatalf("got %d, %v, %d, %d, want %d, %v, %d, %d", d.Pages(), d.Crashed(), d.Steps(), d.Cached(), p.pages, p.down, len(p.all), len(p.waits))
	}
	stable := d.Stable()
	if len(stable) != p.pages {
		t.Fatalf("%d pages", len(stable))
	}
	for i, s := range stable {
		if s != p.stable[i] {
			t.Fatalf("page %d is %.8q, want %.8q", i, s, p.stable[i])
		}
	}
	for i := -1; i <= p.pages; i++ {
		got, e := d.Read(i)
		if wanted, f := p.read(i); got != wanted || e != f {
			t.Fatalf("page %d is read as %.8q, error %d, want %.8q, error %d", i, got, e, wanted, f)
		}
	}
	if !slices.Equal(d.View(), p.all) {
		t.Fatal("View")
	}
}

// both calls one thing on both disks.
func both(t *testing.T, r *rand.Rand, d *disk.Disk, p *plain) (*disk.Disk, *plain) {
	t.Helper()
	at, to, i := r.Intn(p.pages+2)-1, r.Intn(p.pages+2)-1, r.Intn(18)-1
	data := numbered(r.Intn(1000))
	if r.Intn(20) == 0 {
		data = data[1:]
	}
	page := p.stable[at] != ""
	switch r.Intn(16) {
	case 0, 1, 2, 3, 4, 5, 6:
		want(t, "Write", d.Write(at, data), p.step(disk.Op{Kind: disk.Write, Page: at, Data: data}))
	case 7:
		want(t, "Flush", d.Flush(), p.step(disk.Op{Kind: disk.Flush}))
	case 8:
		steps, mask := r.Intn(12)-2, r.Uint64()
		d.Arm(steps, mask)
		p.armed, p.steps, p.since, p.mask = steps >= 0, steps, 0, mask
	case 9, 10:
		if p.down || r.Intn(8) == 0 {
			d.Start()
			p.down, p.armed, p.waits = false, false, nil
		}
	case 11:
		want(t, "Over", d.Over(at, data), page && len(data) == 256)
		if page && len(data) == 256 {
			p.stable[at] = data
		}
	case 12:
		other := p.stable[to] != ""
		want(t, "Swap", d.Swap(at, to), page && other)
		if page && other {
			a, b := p.stable[at], p.stable[to]
			p.stable[at], p.stable[to] = b, a
		}
	case 13:
		if len(p.states) == 16 {
			want(t, "Save", d.Save(), -1)
		} else {
			want(t, "Save", d.Save(), len(p.states))
			p.states = append(p.states, copied(p.stable))
		}
	case 14:
		there := i >= 0 && i < len(p.states)
		want(t, "Back", d.Back(i), there)
		if there {
			p.stable = copied(p.states[i])
		}
	case 15:
		return d.Clone(), p.clone()
	}
	return d, p
}

// TestAny: P9.1, any calls, with copies in between whose originals go on.
func TestAny(t *testing.T) {
	r := rand.New(rand.NewSource(9))
	for range 300 {
		pages, room := 1+r.Intn(6), 1+r.Intn(5)
		if r.Intn(4) == 0 {
			room = 60 + r.Intn(20)
		}
		d, p := disk.New(pages, room), newPlain(pages, room)
		for range 400 {
			oldDisk, oldPlain := d, p
			d, p = both(t, r, d, p)
			p.wantAlike(t, d)
			if d != oldDisk {
				both(t, r, oldDisk, oldPlain)
				oldPlain.wantAlike(t, oldDisk)
				p.wantAlike(t, d)
			}
			if t.Failed() {
				return
			}
		}
	}
}
