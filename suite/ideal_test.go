package suite_test

import (
	"fmt"
	"math/rand"
	"strings"
	"testing"

	"sealwax/sha"
	"sealwax/suite"
)

// plain is an ideal suite that is written apart from the program: it remembers in lists.
type plain struct {
	tape   []byte
	drawn  int
	seals  []plainSeal
	labels []plainLabel
	macs   []plainMac
}

type plainSeal struct {
	at         suite.At
	ad, pt, ct string
}

type plainLabel struct {
	word    string
	n, part int
	label   string
}

type plainMac struct{ sum, text string }

func (p *plain) take(n int) string {
	out := ""
	for range n {
		if len(p.tape) == 0 {
			out += "\x00"
		} else {
			out += string(p.tape[p.drawn%len(p.tape) : p.drawn%len(p.tape)+1])
		}
		p.drawn++
	}
	return out
}

func (p *plain) seal(at suite.At, ad, text string) string {
	c := p.take(len(text) + 16)
	p.seals = append(p.seals, plainSeal{at, ad, text, c})
	return c
}

func (p *plain) open(at suite.At, ad, c string) (string, bool) {
	for i := len(p.seals) - 1; i >= 0; i-- {
		if x := p.seals[i]; x.at == at {
			if x.ad == ad && x.ct == c {
				return x.pt, true
			}
			return "", false
		}
	}
	return "", false
}

func (p *plain) label(word string, n, part int) string {
	for _, x := range p.labels {
		if x.word == word && x.n == n && x.part == part {
			return x.label
		}
	}
	label := number(len(p.labels)) + p.take(8)
	p.labels = append(p.labels, plainLabel{word, n, part, label})
	return label
}

func (p *plain) mac(text string) string {
	sum := number(len(p.macs)) + p.take(24)
	p.macs = append(p.macs, plainMac{sum, text})
	return sum
}

func (p *plain) check(sum, text string) bool {
	for _, x := range p.macs {
		if x.sum == sum {
			return x.text == text
		}
	}
	return false
}

// TestIdealExample: example 1 of the chapter.
func TestIdealExample(t *testing.T) {
	s := suite.Ideal("ab")
	if c := s.Seal(suite.At{}, "", ""); c != "abababababababab" || s.Drawn() != 16 {
		t.Errorf("got %q, %d", c, s.Drawn())
	}
}

// TestTape: bytes are taken in order, from the first one again after the last one.
func TestTape(t *testing.T) {
	for n := range 40 {
		tape := allBytes(n)
		s := suite.Ideal(tape)
		endless := strings.Repeat(tape, 100)
		if n == 0 {
			endless = strings.Repeat("\x00", 2000)
		} else if n < 20 {
			endless = strings.Repeat(tape, 2000)
		}
		taken := 0
		next := func(count int) string {
			taken += count
			return endless[taken-count : taken]
		}
		if s.Drawn() != 0 {
			t.Errorf("Drawn at first: %d", s.Drawn())
		}
		for i := range 12 {
			if c, want := s.Seal(suite.At{Seq: i}, "ad", allBytes(i)), next(i+16); c != want {
				t.Errorf("tape of %d bytes: Seal %d: got %q, want %q", n, i, c, want)
			}
			if x, want := s.Label("word", i, 0), number(i)+next(8); string(x[:]) != want {
				t.Errorf("tape of %d bytes: Label %d: got %q, want %q", n, i, x, want)
			}
			if m, want := s.Mac("text"), number(i)+next(24); string(m[:]) != want {
				t.Errorf("tape of %d bytes: Mac %d: got %q, want %q", n, i, m, want)
			}
			if s.Drawn() != taken {
				t.Errorf("tape of %d bytes: Drawn %d, want %d", n, s.Drawn(), taken)
			}
		}
	}
}

// TestAskingTakesNothing: only what is new takes bytes of the tape.
func TestAskingTakesNothing(t *testing.T) {
	s := suite.Ideal("a tape")
	c, x, m := s.Seal(suite.At{Seq: 1}, "ad", "plain"), s.Label("word", 1, 2), s.Mac("text")
	drawn := s.Drawn()
	if drawn != 21+8+24 {
		t.Errorf("Drawn: %d", drawn)
	}
	for range 3 {
		s.Open(suite.At{Seq: 1}, "ad", c)
		s.Open(suite.At{Seq: 2}, "ad", c)
		s.Check(m, "text")
		s.Check(sha.Sum{}, "text")
		s.Clone().Mac("text")
		s.Clone()
		if s.Label("word", 1, 2) != x || s.Drawn() != drawn {
			t.Errorf("Drawn: %d", s.Drawn())
		}
	}
}

// TestSealReplaces: of what was sealed at a place only the last is opened.
func TestSealReplaces(t *testing.T) {
	s := suite.Ideal(allBytes(1000))
	at := suite.At{Boot: 1, Seq: 1}
	first := s.Seal(at, "ad", "one")
	other := s.Seal(suite.At{Boot: 1, Seq: 2}, "ad", "two")
	second := s.Seal(at, "ad", "new")
	wantShut(t, s, at, "ad", first)
	wantOpen(t, s, at, "ad", second, "new")
	wantOpen(t, s, suite.At{Boot: 1, Seq: 2}, "ad", other, "two")
	third := s.Seal(at, "da", "new")
	wantShut(t, s, at, "ad", second)
	wantShut(t, s, at, "ad", third)
	wantShut(t, s, at, "da", second)
	wantOpen(t, s, at, "da", third, "new")
}

// TestSealReplacesAtTheEnds: places beyond the range are one.
func TestSealReplacesAtTheEnds(t *testing.T) {
	s := suite.Ideal(allBytes(1000))
	old := s.Seal(suite.At{Boot: -1, Seq: most}, "", "old")
	fresh := s.Seal(suite.At{Boot: 0, Seq: most + 1}, "", "new")
	wantShut(t, s, suite.At{Boot: -1, Seq: most}, "", old)
	wantOpen(t, s, suite.At{Boot: -1, Seq: most}, "", fresh, "new")
}

// TestSameBytesElsewhere: on a short tape two places have the same bytes, and each is opened as itself.
func TestSameBytesElsewhere(t *testing.T) {
	s := suite.Ideal("")
	a, b := suite.At{Seq: 1}, suite.At{Boot: 1}
	c, d := s.Seal(a, "ad", "one"), s.Seal(b, "ad", "two")
	if c != d {
		t.Errorf("got %q and %q", c, d)
	}
	wantOpen(t, s, a, "ad", c, "one")
	wantOpen(t, s, b, "ad", c, "two")
	wantShut(t, s, suite.At{Boot: 1, Seq: 1}, "ad", c)
}

// TestEveryMacIsNew: also of a text that has one; all of them stay.
func TestEveryMacIsNew(t *testing.T) {
	for _, tape := range []string{"", "a", "a tape", allBytes(256)} {
		s := suite.Ideal(tape)
		var sums []sha.Sum
		text := func(i int) string { return fmt.Sprint(i % 50) }
		for i := range 600 {
			sums = append(sums, s.Mac(text(i)))
			if x := sums[i]; string(x[:8]) != number(i) {
				t.Errorf("Mac %d begins with %x", i, x[:8])
			}
		}
		for i, x := range sums {
			if !s.Check(x, text(i)) || s.Check(x, text(i+1)) || s.Check(x) {
				t.Errorf("Mac %d is accepted for other texts", i)
			}
		}
	}
}

// TestNoForeignMac: P8.2, what another suite made, or nobody, is not accepted.
func TestNoForeignMac(t *testing.T) {
	s := suite.Ideal("one")
	s.Mac("text")
	for _, other := range []*suite.Suite{suite.Real("one"), suite.Ideal("two"), suite.Ideal("")} {
		if x := other.Mac("text"); s.Check(x, "text") {
			t.Errorf("%s is accepted", x.Hex())
		}
	}
	d := s.Clone()
	if x := d.Mac("text"); s.Check(x, "text") || !d.Check(x, "text") {
		t.Error("the copy's Mac is accepted")
	}
}

// TestNoTwoLabels: P8.3, on any tape, for more than one byte can count.
func TestNoTwoLabels(t *testing.T) {
	for _, tape := range []string{"", "a", "\xff", "a tape", allBytes(8), number(0), number(1)} {
		s := suite.Ideal(tape)
		seen := map[[16]byte]int{}
		for i := range 70000 {
			word, n, part := "a", i, i%3
			if i%2 == 0 {
				word, n = fmt.Sprint(i), 7
			}
			x := s.Label(word, n, part)
			if other, ok := seen[x]; ok {
				t.Fatalf("tape %q: labels %d and %d are equal", tape, other, i)
			}
			seen[x] = i
			if string(x[:8]) != number(i) {
				t.Fatalf("label %d begins with %x", i, x[:8])
			}
		}
		if s.Drawn() != 8*70000 {
			t.Errorf("Drawn: %d", s.Drawn())
		}
	}
}

// TestCountsAreApart: labels, Macs and seals are counted each for themselves.
func TestCountsAreApart(t *testing.T) {
	s := suite.Ideal("x")
	for i := range 5 {
		s.Seal(suite.At{Seq: i}, "", "")
		s.Mac("a")
		s.Mac("a")
		x := s.Label("a", i, 0)
		s.Label("a", i, 0)
		m := s.Mac("b")
		if string(x[:]) != number(i)+"xxxxxxxx" || string(m[:]) != number(3*i+2)+strings.Repeat("x", 24) {
			t.Errorf("got %x, %x", x, m)
		}
	}
}

// TestCloneIsApart: what one does after it, the other one does not see.
func TestCloneIsApart(t *testing.T) {
	for _, swapped := range []bool{false, true} {
		s := suite.Ideal(allBytes(1000))
		at := suite.At{Seq: 1}
		c, x, m := s.Seal(at, "ad", "plain"), s.Label("word", 1, 0), s.Mac("text")
		d := s.Clone()
		drawn := s.Drawn()
		if swapped {
			s, d = d, s
		}
		d.Seal(at, "ad", "other")
		e := d.Seal(suite.At{Seq: 2}, "ad", "more")
		d.Label("new", 0, 0)
		n := d.Mac("new")
		if d.Drawn() == drawn || s.Drawn() != drawn {
			t.Errorf("Drawn: %d and %d", s.Drawn(), d.Drawn())
		}
		wantOpen(t, s, at, "ad", c, "plain")
		wantShut(t, d, at, "ad", c)
		wantShut(t, s, suite.At{Seq: 2}, "ad", e)
		if s.Check(n, "new") || !s.Check(m, "text") || s.Label("word", 1, 0) != x || s.Drawn() != drawn {
			t.Error("the copy is seen")
		}
		if y := s.Label("other", 0, 0); string(y[:8]) != number(1) {
			t.Errorf("the copy's labels are counted: %x", y)
		}
	}
}

// TestIdealsAreApart: two with the same tape begin alike, and know nothing of each other.
func TestIdealsAreApart(t *testing.T) {
	a, b := suite.Ideal("tape"), suite.Ideal("tape")
	at := suite.At{Boot: 1}
	c := a.Seal(at, "ad", "plain")
	wantShut(t, b, at, "ad", c)
	if b.Drawn() != 0 || b.Seal(at, "ad", "other") != c {
		t.Error("they do not begin alike")
	}
	wantOpen(t, a, at, "ad", c, "plain")
	wantOpen(t, b, at, "ad", c, "other")
}

// TestIdealAny: any calls, with copies in between.
func TestIdealAny(t *testing.T) {
	r := rand.New(rand.NewSource(5))
	for round := range 200 {
		tape := allBytes(r.Intn(50))
		s, p := suite.Ideal(tape), &plain{tape: []byte(tape)}
		for range 150 {
			at := suite.At{Boot: r.Intn(3), Seq: r.Intn(3)}
			ad, text := allBytes(r.Intn(2)), allBytes(r.Intn(4))
			word, n, part := allBytes(r.Intn(3)), r.Intn(3), r.Intn(2)
			switch r.Intn(7) {
			case 0:
				if got, want := s.Seal(at, ad, text), p.seal(at, ad, text); got != want {
					t.Fatalf("round %d: Seal: got %q, want %q", round, got, want)
				}
			case 1, 2:
				c := ""
				if len(p.seals) > 0 {
					c = p.seals[r.Intn(len(p.seals))].ct
				}
				got, ok := s.Open(at, ad, c)
				if want, is := p.open(at, ad, c); got != want || ok != is {
					t.Fatalf("round %d: Open: got %q, %v, want %q, %v", round, got, ok, want, is)
				}
			case 3:
				if got, want := s.Label(word, n, part), p.label(word, n, part); string(got[:]) != want {
					t.Fatalf("round %d: Label: got %q, want %q", round, got, want)
				}
			case 4:
				if got, want := s.Mac(text, word), p.mac(text+word); string(got[:]) != want {
					t.Fatalf("round %d: Mac: got %q, want %q", round, got, want)
				}
			case 5:
				var x sha.Sum
				if len(p.macs) > 0 {
					copy(x[:], p.macs[r.Intn(len(p.macs))].sum)
				}
				if got, want := s.Check(x, text, word), p.check(string(x[:]), text+word); got != want {
					t.Fatalf("round %d: Check: got %v, want %v", round, got, want)
				}
			case 6:
				old := s
				s = s.Clone()
				old.Seal(at, ad, "lost")
				old.Label("lost", 0, 0)
				old.Mac("lost")
			}
			if s.Drawn() != p.drawn {
				t.Fatalf("round %d: Drawn: got %d, want %d", round, s.Drawn(), p.drawn)
			}
		}
	}
}
