package vault

import (
	"strings"

	"sealwax/api"
	"sealwax/disk"
	"sealwax/journal"
	"sealwax/suite"
)

// begin returns a vault of the next Boot, whose leaves are not known yet.
func begin(d *disk.Disk, s *suite.Suite, t *Trusted, c Config) (*Vault, api.Errno) {
	if d.Pages() < c.Disk() {
		return nil, api.ErrArg
	}
	t.Boot++
	return &Vault{Config: c.limited(), disk: d, suite: s, trusted: t, written: map[int]text{}}, api.OK
}

// lay writes a vault whose pages were never sealed over what the disk has.
func (v *Vault) lay() api.Errno {
	if e := v.disk.Write(journalAt, filled("")); e != api.OK {
		return e
	}
	for i, data := range v.leaves {
		if e := v.disk.Write(v.leafPageAt(i), data); e != api.OK {
			return e
		}
	}
	header := headerOf(v.commit(), v.suite.Mac(v.leaves.signed(v.commit())...))
	if e := v.disk.Write(headerAt, header); e != api.OK {
		return e
	}
	return v.disk.Flush()
}

// finish replays the journal of the last commit, and erases any other one: it belongs to a commit that failed, or an attacker has put it there.
func (v *Vault) finish() api.Errno {
	l, e := journal.Find(v.disk, journalAt, v.Journal)
	if e != api.OK || len(l) == 0 {
		return e
	}
	if v.isLast(l[len(l)-1]) {
		_, e := journal.Replay(v.disk, journalAt, v.Journal)
		return e
	}
	if e := v.disk.Write(journalAt, filled("")); e != api.OK {
		return e
	}
	return v.disk.Flush()
}

// isLast reports whether this is the header of the last commit, as a journal ends with it.
func (v *Vault) isLast(x journal.Page) bool {
	return x.At == headerAt && strings.HasPrefix(x.Data, titleOf(v.trusted.Commit))
}

// load reads the leaves, which must be those of the last commit.
func (v *Vault) load() api.Errno {
	header, e := v.disk.Read(headerAt)
	if e != api.OK {
		return e
	}
	for i := range v.leafPages() {
		data, e := v.disk.Read(v.leafPageAt(i))
		if e != api.OK {
			return e
		}
		v.leaves = append(v.leaves, data)
	}
	commit, mac, ok := headerParts(header)
	if !ok || commit != v.trusted.Commit || !v.leaves.sound(v.Pages()) || !v.suite.Check(mac, v.leaves.signed(commit)...) {
		return api.ErrTampered
	}
	return api.OK
}
