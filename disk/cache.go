package disk

// add makes a write the newest one of the cache; if there is no room for it, the oldest one makes room.
func (d *Disk) add(w Op) {
	select {
	case d.cache <- w:
	default:
		d.settle(<-d.cache)
		d.cache <- w
	}
}

// settle makes a write stable.
func (d *Disk) settle(w Op) { d.stable[w.Page] = w.Data }

// drained yields the writes of the cache, the oldest first, each of which leaves it.
func (d *Disk) drained(yield func(Op) bool) {
	for {
		select {
		case w := <-d.cache:
			if !yield(w) {
				return
			}
		default:
			return
		}
	}
}

// waiting yields the writes of the cache, the oldest first, which stay there: each goes behind all others, also after yield wants no more, so that in the end they are in order again.
func (d *Disk) waiting(yield func(Op) bool) {
	going := true
	for range len(d.cache) {
		w := <-d.cache
		d.cache <- w
		going = going && yield(w)
	}
}
