package catalog_test

import (
	"math"
	"strings"
	"testing"

	"sealwax/api"
	"sealwax/box"
	"sealwax/catalog"
	"sealwax/suite"
)

// TestReadParts: every part of an encoding ends too early, and nothing may follow it.
func TestReadParts(t *testing.T) {
	for _, s := range suites() {
		all := some(t, s).Pack()
		for n := range all {
			wantNoRead(t, s, all[:n], api.ErrEnd)
		}
		for _, behind := range []string{"x", "\x00", zeros(8), all} {
			wantNoRead(t, s, all+behind, api.ErrForm)
		}
		wantRead(t, s, all)
	}
}

// TestReadEveryBit: each one changed, against a reader that is written apart.
func TestReadEveryBit(t *testing.T) {
	for _, s := range suites() {
		all := some(t, s).Pack()
		counts := map[api.Errno]int{}
		for bit := range 8 * len(all) {
			changed := []byte(all)
			changed[bit/8] ^= 0x80 >> (bit % 8)
			counts[wantLikePlain(t, s, string(changed))]++
		}
		if counts[api.OK] < 300 || counts[api.ErrForm] < 300 || counts[api.ErrEnd] < 100 {
			t.Errorf("%v: the test asks too little", counts)
		}
	}
}

// TestReadBoxes: there are as many as names, in the order of their numbers.
func TestReadBoxes(t *testing.T) {
	s := suite.Real("key")
	end := num(1, 0) + noIndex
	three := num(9, 3) + name("a", 8) + name("b", 2) + name("c", 5)
	wantRead(t, s, three+mailbox(2, 1)+mailbox(5, 1)+mailbox(8, 1)+end)
	for i := range 10 * 10 * 10 {
		a, b, c := i/100, i/10%10, i%10
		if l := mailbox(a, 1) + mailbox(b, 1) + mailbox(c, 1); a != 2 || b != 5 || c != 8 {
			wantNoRead(t, s, three+l+end, api.ErrForm)
		}
	}
	wantNoRead(t, s, three+mailbox(2, 1)+mailbox(5, 1)+end, api.ErrForm)
	wantNoRead(t, s, three+mailbox(2, 1)+mailbox(5, 1)+mailbox(8, 1)+mailbox(9, 1)+end, api.ErrForm)
	wantNoRead(t, s, three+end, api.ErrForm)
	wantNoRead(t, s, num(1, 0)+mailbox(1, 1)+end, api.ErrForm)
	wantRead(t, s, num(most, 1)+name("a", most-1)+mailbox(most-1, most)+end)
	wantNoRead(t, s, num(most, 1)+name("a", most-1)+mailbox(most, most)+end, api.ErrForm)
}

// TestReadBoxWhole: the validity is compared as soon as the mailbox was read, after all other errors of it.
func TestReadBoxWhole(t *testing.T) {
	s := suite.Real("key")
	begin := num(9, 2) + name("a", 2) + name("b", 5)
	other := mailbox(3, 2, box.Entry{UID: 1, Mail: 1})
	wantNoRead(t, s, begin+other, api.ErrForm)
	wantNoRead(t, s, begin+other+"x", api.ErrForm)
	for n := range other {
		wantNoRead(t, s, begin+other[:n], api.ErrEnd)
	}
	begin += mailbox(2, 1)
	wantNoRead(t, s, begin+other, api.ErrForm)
	for n := range other {
		wantNoRead(t, s, begin+other[:n], api.ErrEnd)
	}
	for _, wrong := range []string{mailbox(5, 0), mailbox(0, 1), mailbox(most+1, 1), num(5, 1, 257), mailbox(5, 2, box.Entry{UID: 2, Mail: 1}), mailbox(5, 2, box.Entry{UID: 1, Flags: 32, Mail: 1}), mailbox(5, 2, box.Entry{UID: 1})} {
		wantNoRead(t, s, begin+wrong, api.ErrForm)
	}
}

// TestReadNames: the errors of layer 17.
func TestReadNames(t *testing.T) {
	s := suite.Real("key")
	end := mailbox(1, 1) + num(1, 0) + noIndex
	wantRead(t, s, num(2, 1)+name("a", 1)+end)
	for _, wrong := range []string{num(0, 1) + name("a", 1), num(most+1, 1) + name("a", 1), num(2, 17) + name("a", 1), num(2, 1) + name("a b", 1), num(2, 1) + name("", 1), num(1, 1) + name("a", 1), num(2, 2) + name("a", 1) + name("b", 1), num(3, 2) + name("b", 1) + name("a", 2)} {
		wantNoRead(t, s, wrong, api.ErrForm)
		wantNoRead(t, s, wrong+end, api.ErrForm)
		wantNoRead(t, s, wrong+mailbox(2, 1)+end, api.ErrForm)
	}
}

// TestReadNext: 1 to 2^40; at most 4096 mails. That is checked as soon as both were read.
func TestReadNext(t *testing.T) {
	s := suite.Real("key")
	for _, next := range []int{1, 2, 300, 1 << 32, most - 1, most} {
		c := wantRead(t, s, num(1, 0)+num(next, 0)+noIndex)
		want(t, "Next", c.Next, next)
		for _, count := range []int{4097, 4098, 1 << 32, most, math.MaxInt} {
			wantNoRead(t, s, num(1, 0)+num(next, count), api.ErrForm)
			wantNoRead(t, s, num(1, 0)+num(next, count)+noIndex, api.ErrForm)
		}
		for _, count := range []int{1, 2, 4095, 4096} {
			wantNoRead(t, s, num(1, 0)+num(next, count), api.ErrEnd)
		}
	}
	for _, next := range []int{0, most + 1, most + 2, 2 * most, math.MaxInt} {
		for _, count := range []int{0, 1, 4096, 4097, math.MaxInt} {
			wantNoRead(t, s, num(1, 0)+num(next, count), api.ErrForm)
			wantNoRead(t, s, num(1, 0)+num(next, count)+noIndex, api.ErrForm)
			wantNoRead(t, s, (num(1, 0) + num(next, count))[:31], api.ErrEnd)
		}
		wantNoRead(t, s, num(1, 0)+num(next), api.ErrEnd)
	}
}

// TestReadNumbersOfMails: they ascend, from 1 on, and are less than the next one.
func TestReadNumbersOfMails(t *testing.T) {
	s := suite.Real("key")
	for next := 1; next < 6; next++ {
		for i := range 6 * 6 * 6 {
			a, b, c := i/36, i/6%6, i%6
			all := num(1, 0) + num(next, 3) + place(a, 1, 1) + place(b, 2, 1) + place(c, 1, 1) + noIndex
			if 0 < a && a < b && b < c && c < next {
				want(t, "mails", len(wantRead(t, s, all).Mails), 3)
			} else {
				wantNoRead(t, s, all, api.ErrForm)
			}
		}
	}
	for _, next := range []int{1, 2, 3, 300, most} {
		for _, id := range []int{0, 1, 2, next - 1, next, next + 1, most - 1, most, most + 1, math.MaxInt} {
			all := num(1, 0) + num(next, 1) + place(id, 1, 1) + noIndex
			if id >= 1 && id < next {
				wantNumbers(t, "Lost", wantRead(t, s, all).Lost(), id)
			} else {
				wantNoRead(t, s, all, api.ErrForm)
			}
		}
	}
}

// TestReadPlaces: First and Count are 1 to 4096, each by itself.
func TestReadPlaces(t *testing.T) {
	s := suite.Real("key")
	places := []int{0, 1, 2, 4095, 4096, 4097, 1 << 32, math.MaxInt}
	for _, first := range places {
		for _, count := range places {
			for _, all := range []string{num(5, 1) + place(4, first, count), num(5, 2) + place(3, 1, 1) + place(4, first, count)} {
				all = num(1, 0) + all + noIndex
				if first < 1 || first > 4096 || count < 1 || count > 4096 {
					wantNoRead(t, s, all, api.ErrForm)
					continue
				}
				x := wantRead(t, s, all).Mails[4]
				want(t, "First", x.First, first)
				want(t, "Count", x.Count, count)
			}
		}
	}
}

// TestReadMailWhole: a mail is checked as soon as all of it was read, not before, and before what follows it is read.
func TestReadMailWhole(t *testing.T) {
	s := suite.Real("key")
	begin := num(1, 0) + num(5, 3) + place(2, 1, 1)
	for _, wrong := range []string{place(2, 1, 1), place(1, 1, 1), place(0, 1, 1), place(5, 1, 1), place(3, 0, 1), place(3, 1, 0), place(3, 4097, 1), place(3, 1, 4097), place(9, 0, 0)} {
		wantNoRead(t, s, begin+wrong, api.ErrForm)
		wantNoRead(t, s, begin+wrong+"x", api.ErrForm)
		wantNoRead(t, s, begin+wrong+place(4, 1, 1)+noIndex, api.ErrForm)
		for n := range wrong {
			wantNoRead(t, s, begin+wrong[:n], api.ErrEnd)
		}
	}
	wantNoRead(t, s, begin+place(3, 1, 1), api.ErrEnd)
	wantNoRead(t, s, begin+place(3, 1, 1)+noIndex, api.ErrForm)
}

// TestReadIndex: the errors of layer 16, which come before those for bytes that remain and for entries.
func TestReadIndex(t *testing.T) {
	s := suite.Real("key")
	begin := num(2, 1) + name("a", 1) + mailbox(1, 2, box.Entry{UID: 1, Mail: 3})
	one, none := begin+num(5, 1)+place(3, 1, 1), begin+num(5, 1)+place(4, 1, 1)
	wantRead(t, s, one+noIndex)
	for n := range 16 {
		for _, all := range []string{one, none} {
			wantNoRead(t, s, all+text(zeros(n)), api.ErrEnd)
			wantNoRead(t, s, all+text(zeros(n))+"behind", api.ErrEnd)
			wantNoRead(t, s, all+text(zeros(n))+zeros(100), api.ErrEnd)
			wantNoRead(t, s, all+text(num(math.MinInt)+zeros(n)), api.ErrForm)
		}
	}
	for _, all := range []string{one, none} {
		wantNoRead(t, s, all+text(zeros(17)), api.ErrForm)
		wantNoRead(t, s, all+text(num(0, 1)+zeros(32)), api.ErrForm)
		wantNoRead(t, s, all, api.ErrEnd)
		wantNoRead(t, s, all+num(16), api.ErrEnd)
		wantNoRead(t, s, all+num(math.MaxInt)+zeros(16), api.ErrEnd)
		wantNoRead(t, s, all+num(math.MinInt)+zeros(16), api.ErrForm)
		wantNoRead(t, s, all+num(-1)+zeros(16), api.ErrForm)
		wantNoRead(t, s, all+noIndex+"x", api.ErrForm)
	}
	wantNoRead(t, s, none+noIndex, api.ErrForm)
}

// TestReadEntries: each one is for a mail that exists, in whatever mailbox.
func TestReadEntries(t *testing.T) {
	s := suite.Real("key")
	for i := range 6 * 6 * 6 {
		a, b, c := i/36, i/6%6, i%6
		all := num(3, 2) + name("a", 1) + name("b", 2) +
			mailbox(1, 3, box.Entry{UID: 1, Mail: a}, box.Entry{UID: 2, Mail: b}) + mailbox(2, 2, box.Entry{UID: 1, Mail: c}) +
			num(5, 2) + place(2, 1, 1) + place(4, 2, 1) + noIndex
		if fine := func(n int) bool { return n == 2 || n == 4 }; fine(a) && fine(b) && fine(c) {
			wantRead(t, s, all)
		} else {
			wantNoRead(t, s, all, api.ErrForm)
		}
	}
}

// TestReadFirstError: the first one from the left, whatever follows it.
func TestReadFirstError(t *testing.T) {
	s := suite.Real("key")
	wantNoRead(t, s, "", api.ErrEnd)
	wantNoRead(t, s, "short", api.ErrEnd)
	wantNoRead(t, s, strings.Repeat("\xff", 7), api.ErrEnd)
	wantNoRead(t, s, strings.Repeat("\xff", 100), api.ErrForm)
	wantNoRead(t, s, zeros(15), api.ErrEnd)
	wantNoRead(t, s, zeros(16), api.ErrForm)
	begins := []string{"", num(2), num(2, 1), num(2, 1) + name("a", 1), num(2, 1) + name("a", 1) + num(1, 1), num(2, 1) + name("a", 1) + mailbox(1, 1), num(1, 0), num(1, 0) + num(9), num(1, 0) + num(9, 1), num(1, 0) + num(9, 1) + num(8, 8), num(1, 0) + num(9, 1) + place(8, 8, 8)}
	for i, begin := range begins {
		for _, great := range []string{"\x80" + zeros(7), strings.Repeat("\xff", 8)} {
			if i == 2 { // the bytes of a name
				great = strings.Repeat("a", 32) + great
			}
			wantNoRead(t, s, begin+great, api.ErrForm)
			wantNoRead(t, s, begin+great+zeros(100), api.ErrForm)
			wantNoRead(t, s, begin+great[:7], api.ErrEnd)
		}
	}
}

// TestReadKeepsSuite: Read asks a suite for labels, but changes nothing that is asked for later.
func TestReadKeepsSuite(t *testing.T) {
	for _, s := range suites() {
		all := some(t, s).Pack()
		drawn := s.Drawn()
		for _, packed := range []string{all, all + "x", all[:len(all)-1], ""} {
			catalog.Read(s, packed)
			want(t, "Drawn", s.Drawn(), drawn)
		}
		wantRead(t, s, all)
	}
}
