package vault

import (
	"slices"
	"strings"

	"sealwax/api"
	"sealwax/sha"
	"sealwax/suite"
	"sealwax/wire"
)

const (
	mark          = "SWHD"
	leafSize      = 16 // bytes: two numbers
	leavesPerPage = api.Page / leafSize
)

// numberOf returns a number as bytes.
func numberOf(n int) string { return new(wire.Out).Num(n).Bytes() }

// filled returns a page of the disk that begins with these bytes.
func filled(s string) string { return new(wire.Out).Fixed(s, api.Page).Bytes() }

// titleOf returns what the header of a commit begins with.
func titleOf(commit int) string { return mark + numberOf(commit) }

// headerOf returns the header of a commit.
func headerOf(commit int, mac sha.Sum) string { return filled(titleOf(commit) + string(mac[:])) }

// headerParts returns the number of a commit and the Mac of its header, and false if it is not a header.
func headerParts(header string) (int, sha.Sum, bool) {
	in := wire.Of(header)
	in.Raw(len(mark))
	commit := in.Num()
	var mac sha.Sum
	copy(mac[:], in.Raw(len(mac)))
	if header != headerOf(commit, mac) {
		return 0, sha.Sum{}, false
	}
	return commit, mac, true
}

// leaves are the pages of leaves as they are on the disk.
type leaves []string

// noLeaves returns pages of leaves for pages that were never sealed.
func noLeaves(pages int) leaves { return slices.Repeat(leaves{filled("")}, pages) }

// of returns where page p was sealed last, a zero At if it never was.
func (l leaves) of(p int) suite.At {
	in := wire.Of(l[p/leavesPerPage][p%leavesPerPage*leafSize:])
	boot := in.Num()
	return suite.At{Boot: boot, Seq: in.Num()}
}

// set says that page p was sealed there.
func (l leaves) set(p int, at suite.At) {
	data, begin := l[p/leavesPerPage], p%leavesPerPage*leafSize
	l[p/leavesPerPage] = data[:begin] + numberOf(at.Boot) + numberOf(at.Seq) + data[begin+leafSize:]
}

// sound reports whether these are n leaves, and zero bytes after the last one.
func (l leaves) sound(n int) bool {
	in := wire.Of(strings.Join(l, ""))
	for range 2 * n {
		in.Num()
	}
	rest := in.Raw(in.Left())
	return in.Err() == api.OK && strings.Trim(rest, "\x00") == ""
}

// signed returns all that the Mac of a commit is of.
func (l leaves) signed(commit int) []string { return slices.Concat([]string{titleOf(commit)}, l) }
