package wire_test

import (
	"encoding/binary"
	"math"
	"math/rand"
	"slices"
	"strings"
	"testing"

	"sealwax/api"
	"sealwax/wire"
)

// someBytes returns n bytes that go through all values.
func someBytes(n, seed int) string {
	out := make([]byte, n)
	for i := range out {
		out[i] = byte(i*7 + i/256 + seed*17)
	}
	return string(out)
}

func zeros(n int) string { return strings.Repeat("\x00", n) }

// plainNum is written apart from the program.
func plainNum(n int) string {
	if n < 0 {
		n = 0
	}
	return string(binary.BigEndian.AppendUint64(nil, uint64(n)))
}

func plainText(s string) string { return plainNum(len(s)) + s }

// numbers are all with one bit, those beside them, and the ends.
func numbers() []int {
	out := []int{0, math.MaxInt, math.MaxInt - 1, 0x0102030405060708, 0x7f80ff00fe01ff7f}
	for bit := range 63 {
		out = append(out, 1<<bit, 1<<bit-1, 1<<bit+1)
	}
	return out
}

func wantBytes(t *testing.T, o *wire.Out, want string) {
	t.Helper()
	if got := o.Bytes(); got != want {
		t.Errorf("got %x, want %x", got, want)
	}
}

// wantIn checks everything that an In tells without reading.
func wantIn(t *testing.T, in *wire.In, left int, err api.Errno) {
	t.Helper()
	end := err
	if err == api.OK && left > 0 {
		end = api.ErrForm
	}
	if in.Left() != left || in.Err() != err || in.End() != end {
		t.Errorf("Left %d, Err %d, End %d, want %d, %d, %d", in.Left(), in.Err(), in.End(), left, err, end)
	}
}

// wantFailed checks that an In has this error and answers nothing any more, whatever it is asked.
func wantFailed(t *testing.T, in *wire.In, err api.Errno) {
	t.Helper()
	wantIn(t, in, 0, err)
	for range 2 {
		if n := in.Num(); n != 0 {
			t.Errorf("Num after an error: %d", n)
		}
		if s := in.Text(); s != "" {
			t.Errorf("Text after an error: %q", s)
		}
		for _, n := range []int{math.MinInt, -1, 0, 1, 8, 9, math.MaxInt} {
			if s := in.Raw(n); s != "" {
				t.Errorf("Raw(%d) after an error: %q", n, s)
			}
		}
		wantIn(t, in, 0, err)
		for _, e := range []api.Errno{api.OK, api.ErrForm, api.ErrEnd, api.ErrCrash, -1} {
			in.Fail(e)
			wantIn(t, in, 0, err)
		}
	}
}

func TestOutNum(t *testing.T) {
	wantBytes(t, new(wire.Out).Num(258), "\x00\x00\x00\x00\x00\x00\x01\x02")
	var all wire.Out
	want := ""
	for _, n := range numbers() {
		wantBytes(t, new(wire.Out).Num(n), plainNum(n))
		all.Num(n)
		want += plainNum(n)
	}
	wantBytes(t, &all, want)
	wantBytes(t, new(wire.Out).Num(numbers()...), want)
	for _, n := range []int{-1, -2, -255, -256, math.MinInt, math.MinInt + 1, math.MinInt32} {
		wantBytes(t, new(wire.Out).Num(n), zeros(8))
		wantBytes(t, new(wire.Out).Num(1, n, 2), plainNum(1)+zeros(8)+plainNum(2))
	}
}

func TestOutText(t *testing.T) {
	for n := range 300 {
		s := someBytes(n, n)
		wantBytes(t, new(wire.Out).Text(s), plainText(s))
		wantBytes(t, new(wire.Out).Text(s, "", "\x00", s), plainText(s)+plainText("")+plainText("\x00")+plainText(s))
	}
	s := someBytes(1<<17, 1)
	wantBytes(t, new(wire.Out).Text(s), "\x00\x00\x00\x00\x00\x02\x00\x00"+s)
	wantBytes(t, new(wire.Out).Text(""), zeros(8))
	wantBytes(t, new(wire.Out).Text("\xff\xfe"), "\x00\x00\x00\x00\x00\x00\x00\x02\xff\xfe")
}

func TestOutRaw(t *testing.T) {
	for n := range 300 {
		s := someBytes(n, n)
		wantBytes(t, new(wire.Out).Raw(s), s)
		wantBytes(t, new(wire.Out).Raw(s, "", "\x00", s), s+"\x00"+s)
	}
}

func TestOutFixed(t *testing.T) {
	for _, size := range []int{0, 1, 2, 31, 32, 33, 4095, 4096, 4097, 5000} {
		s := someBytes(size, size)
		for _, n := range []int{math.MinInt, -4096, -1, 0, 1, 2, 3, 16, 31, 32, 33, 255, 256, 4095, 4096, 4097, 1 << 20, math.MaxInt} {
			limited := n
			if n < 0 {
				limited = 0
			} else if n > 4096 {
				limited = 4096
			}
			want := (s + zeros(4096))[:limited]
			wantBytes(t, new(wire.Out).Fixed(s, n), want)
			wantBytes(t, new(wire.Out).Raw("a").Fixed(s, n).Raw("b"), "a"+want+"b")
		}
	}
}

func TestOutNothing(t *testing.T) {
	var o wire.Out
	wantBytes(t, &o, "")
	for _, l := range [][]string{nil, {}, {""}, {"", ""}} {
		o.Raw(l...)
	}
	o.Num().Text().Raw().Num([]int(nil)...).Text([]string(nil)...).Num([]int{}...).Fixed("abc", 0).Fixed("abc", -1).Fixed("", 0)
	wantBytes(t, &o, "")
	wantBytes(t, o.Raw("a").Num().Text().Raw(), "a")
}

// TestOutReturnsItself: each method writes to the Out that it returns.
func TestOutReturnsItself(t *testing.T) {
	var o wire.Out
	for _, p := range []*wire.Out{o.Num(), o.Num(1), o.Text(), o.Text("a"), o.Raw(), o.Raw("b"), o.Fixed("c", 0), o.Fixed("c", 2)} {
		if p != &o {
			t.Error("another Out")
		}
	}
	wantBytes(t, &o, plainNum(1)+plainText("a")+"bc\x00")
}

// TestOutGoesOn: Bytes changes nothing, and what it returned stays.
func TestOutGoesOn(t *testing.T) {
	var o wire.Out
	want := ""
	var seen []string
	for i := range 500 {
		s := someBytes(i%9, i)
		switch i % 4 {
		case 0:
			o.Num(i)
			want += plainNum(i)
		case 1:
			o.Text(s)
			want += plainText(s)
		case 2:
			o.Raw(s)
			want += s
		case 3:
			o.Fixed(s, 5)
			want += (s + zeros(5))[:5]
		}
		wantBytes(t, &o, want)
		wantBytes(t, &o, want)
		seen = append(seen, o.Bytes())
	}
	for i := range seen {
		if !strings.HasPrefix(want, seen[i]) || i > 0 && len(seen[i]) < len(seen[i-1]) {
			t.Fatalf("bytes %d have changed", i)
		}
	}
}

// TestOutCopied: copies of an Out are independent of each other.
func TestOutCopied(t *testing.T) {
	var o wire.Out
	o.Num(1).Raw("a")
	p := o
	o.Raw("b")
	p.Raw("c")
	q := p
	q.Text("d")
	p = o
	p.Num(2)
	o.Raw("e")
	first := plainNum(1) + "a"
	wantBytes(t, &o, first+"be")
	wantBytes(t, &p, first+"b"+plainNum(2))
	wantBytes(t, &q, first+"c"+plainText("d"))
}

// TestListsAreLeftAlone: they are not changed, nor kept, nor is what lies behind them.
func TestListsAreLeftAlone(t *testing.T) {
	numbers := []int{-1, 2, 3, 4}
	texts := []string{"a", "bc", "d", "e"}
	var o wire.Out
	o.Num(numbers[:2]...).Text(texts[:2]...).Raw(texts[:2]...)
	if !slices.Equal(numbers, []int{-1, 2, 3, 4}) || !slices.Equal(texts, []string{"a", "bc", "d", "e"}) {
		t.Error("a list was changed")
	}
	want := o.Bytes()
	numbers[0], numbers[1], texts[0], texts[1] = 7, 8, "x", "yz"
	wantBytes(t, &o, want)
	wantBytes(t, &o, plainNum(0)+plainNum(2)+plainText("a")+plainText("bc")+"abc")
}

func TestInNum(t *testing.T) {
	for _, n := range numbers() {
		in := wire.Of(plainNum(n) + "rest")
		if got := in.Num(); got != n {
			t.Errorf("got %d, want %d", got, n)
		}
		wantIn(t, in, 4, api.OK)
	}
	if in := wire.Of("\x00\x00\x00\x00\x00\x00\x01\x02"); in.Num() != 258 {
		t.Error("not 258")
	}
}

// TestInNumGreat: those of 2^63 and more are none.
func TestInNumGreat(t *testing.T) {
	for first := 0x80; first < 0x100; first++ {
		for _, rest := range []string{zeros(7), zeros(6) + "\x01", strings.Repeat("\xff", 7), someBytes(100, first)} {
			s := string([]byte{byte(first)}) + rest
			in := wire.Of(s)
			if n := in.Num(); n != 0 {
				t.Errorf("%x: got %d", s[:8], n)
			}
			wantFailed(t, in, api.ErrForm)
			in = wire.Of(s)
			if text := in.Text(); text != "" {
				t.Errorf("%x: got %q", s[:8], text)
			}
			wantFailed(t, in, api.ErrForm)
		}
	}
	in := wire.Of("\x7f" + strings.Repeat("\xff", 7))
	if n := in.Num(); n != math.MaxInt {
		t.Errorf("got %d for 2^63 - 1", n)
	}
	wantIn(t, in, 0, api.OK)
}

// TestInNumShort: too few bytes are too few, whatever they are.
func TestInNumShort(t *testing.T) {
	for n := range 8 {
		for _, s := range []string{zeros(n), strings.Repeat("\xff", n), someBytes(n, 1)} {
			in := wire.Of(s)
			if got := in.Num(); got != 0 {
				t.Errorf("%x: got %d", s, got)
			}
			wantFailed(t, in, api.ErrEnd)
			in = wire.Of(s)
			if got := in.Text(); got != "" {
				t.Errorf("%x: got %q", s, got)
			}
			wantFailed(t, in, api.ErrEnd)
			in = wire.Of(plainNum(1) + s)
			if got := in.Num(); got != 1 {
				t.Errorf("%x: got %d", s, got)
			}
			wantIn(t, in, n, api.OK)
			if got := in.Num(); got != 0 {
				t.Errorf("%x: got %d", s, got)
			}
			wantFailed(t, in, api.ErrEnd)
		}
	}
}

func TestInText(t *testing.T) {
	for n := range 300 {
		s := someBytes(n, n)
		in := wire.Of(plainText(s) + "rest")
		if got := in.Text(); got != s {
			t.Errorf("got %q, want %q", got, s)
		}
		wantIn(t, in, 4, api.OK)
	}
	in := wire.Of(zeros(8))
	if got := in.Text(); got != "" {
		t.Errorf("got %q", got)
	}
	wantIn(t, in, 0, api.OK)
}

// TestInTextShort: one that says that it is longer than what is left.
func TestInTextShort(t *testing.T) {
	for n := range 40 {
		s := someBytes(n, n)
		for _, says := range []int{n + 1, n + 2, n + 8, n + 256, 1 << 31, 1 << 32, 1 << 62, math.MaxInt - 8, math.MaxInt} {
			in := wire.Of(plainNum(says) + s)
			if got := in.Text(); got != "" {
				t.Errorf("%d bytes of %d: got %q", n, says, got)
			}
			wantFailed(t, in, api.ErrEnd)
		}
		in := wire.Of(plainNum(n) + s)
		if got := in.Text(); got != s {
			t.Errorf("%d bytes: got %q", n, got)
		}
		wantIn(t, in, 0, api.OK)
	}
}

func TestInRaw(t *testing.T) {
	s := someBytes(50, 1)
	for n := range len(s) + 1 {
		in := wire.Of(s)
		if got := in.Raw(n); got != s[:n] {
			t.Errorf("got %q, want %q", got, s[:n])
		}
		wantIn(t, in, len(s)-n, api.OK)
		if got := in.Raw(len(s) - n); got != s[n:] {
			t.Errorf("got %q, want %q", got, s[n:])
		}
		wantIn(t, in, 0, api.OK)
	}
	for _, n := range []int{51, 52, 1 << 31, 1 << 32, math.MaxInt - 50, math.MaxInt} {
		in := wire.Of(s)
		if got := in.Raw(n); got != "" {
			t.Errorf("Raw(%d): got %q", n, got)
		}
		wantFailed(t, in, api.ErrEnd)
	}
}

// TestInRawNothing: no bytes are always there, as long as there was no error.
func TestInRawNothing(t *testing.T) {
	for _, s := range []string{"", "abc"} {
		in := wire.Of(s)
		for _, n := range []int{0, -1, -8, math.MinInt, math.MinInt + 1} {
			if got := in.Raw(n); got != "" {
				t.Errorf("Raw(%d): got %q", n, got)
			}
			wantIn(t, in, len(s), api.OK)
		}
	}
}

// TestInEnd: it reads nothing and is no error by itself.
func TestInEnd(t *testing.T) {
	in := wire.Of("ab")
	for n := 2; n > 0; n-- {
		for range 3 {
			if e := in.End(); e != api.ErrForm {
				t.Errorf("%d bytes left: End is %d", n, e)
			}
		}
		wantIn(t, in, n, api.OK)
		if in.Raw(1) == "" {
			t.Error("End has taken something")
		}
	}
	wantIn(t, in, 0, api.OK)
	wantIn(t, wire.Of(""), 0, api.OK)
	in.Raw(1)
	wantFailed(t, in, api.ErrEnd)
}

// TestInFail: the first error stays, and OK is none.
func TestInFail(t *testing.T) {
	in := wire.Of("abcdefgh")
	in.Fail(api.OK)
	wantIn(t, in, 8, api.OK)
	if in.Raw(1) != "a" {
		t.Error("OK has an effect")
	}
	for e := api.ErrForm; e <= api.ErrCrash; e++ {
		for _, s := range []string{"", "abc", plainNum(5), plainText("abc") + plainNum(1)} {
			in := wire.Of(s)
			in.Fail(e)
			wantFailed(t, in, e)
			in = wire.Of("x" + s)
			in.Raw(1)
			in.Fail(api.OK)
			in.Fail(e)
			in.Fail(api.ErrCrash)
			wantFailed(t, in, e)
		}
	}
	for _, e := range []api.Errno{-1, 12, math.MaxInt, math.MinInt} {
		in := wire.Of("abc")
		in.Fail(e)
		wantFailed(t, in, e)
	}
}

// TestInsAreIndependent: two of one text, and results that stay.
func TestInsAreIndependent(t *testing.T) {
	s := plainText("abc") + plainNum(3)
	a, b := wire.Of(s), wire.Of(s)
	if a == b {
		t.Fatal("one In for two calls")
	}
	text := a.Text()
	b.Fail(api.ErrArg)
	if n := a.Num(); n != 3 || text != "abc" {
		t.Errorf("got %q, %d", text, n)
	}
	wantIn(t, a, 0, api.OK)
	wantFailed(t, b, api.ErrArg)
	var none wire.In
	wantIn(t, &none, 0, api.OK)
}

// plainIn is a reader that is written apart from the program.
type plainIn struct {
	bytes []byte
	err   api.Errno
}

func (p *plainIn) fail(e api.Errno) {
	if p.err == api.OK && e != api.OK {
		p.bytes, p.err = nil, e
	}
}

func (p *plainIn) raw(n int) string {
	if p.err != api.OK || n <= 0 {
		return ""
	}
	if len(p.bytes) < n {
		p.fail(api.ErrEnd)
		return ""
	}
	out := string(p.bytes[:n])
	p.bytes = p.bytes[n:]
	return out
}

func (p *plainIn) num() int {
	if p.err != api.OK {
		return 0
	}
	if len(p.bytes) < 8 {
		p.fail(api.ErrEnd)
		return 0
	}
	v := binary.BigEndian.Uint64(p.bytes)
	if v >= 1<<63 {
		p.fail(api.ErrForm)
		return 0
	}
	p.bytes = p.bytes[8:]
	return int(v)
}

func (p *plainIn) text() string {
	n := p.num()
	if p.err != api.OK {
		return ""
	}
	return p.raw(n)
}

// anyBytes returns numbers, texts and bytes that mean nothing, in any order, sometimes cut.
func anyBytes(r *rand.Rand) string {
	out := ""
	for range r.Intn(8) {
		switch r.Intn(6) {
		case 0, 1:
			out += plainNum(r.Int() >> r.Intn(64))
		case 2, 3:
			out += plainText(someBytes(r.Intn(20), r.Int()))
		case 4:
			out += someBytes(r.Intn(12), r.Int())
		case 5:
			out += plainNum(r.Intn(30))
		}
	}
	return out[:len(out)-r.Intn(len(out)/4+1)]
}

// TestInAny: any calls on any bytes.
func TestInAny(t *testing.T) {
	r := rand.New(rand.NewSource(7))
	for range 20000 {
		s := anyBytes(r)
		in, p := wire.Of(s), &plainIn{bytes: []byte(s)}
		for range 12 {
			switch r.Intn(8) {
			case 0, 1, 2:
				if got, want := in.Num(), p.num(); got != want {
					t.Fatalf("%x: got %d, want %d", s, got, want)
				}
			case 3, 4, 5:
				if got, want := in.Text(), p.text(); got != want {
					t.Fatalf("%x: got %q, want %q", s, got, want)
				}
			case 6:
				n := r.Intn(12) - 2
				if got, want := in.Raw(n), p.raw(n); got != want {
					t.Fatalf("%x: got %q, want %q", s, got, want)
				}
			case 7:
				e := api.Errno(max(0, r.Intn(60)-48))
				in.Fail(e)
				p.fail(e)
			}
			wantIn(t, in, len(p.bytes), p.err)
		}
	}
}

// TestOneWay: whatever bytes are accepted as numbers and texts, they are what is written for these.
func TestOneWay(t *testing.T) {
	r := rand.New(rand.NewSource(9))
	accepted := 0
	for range 50000 {
		s := anyBytes(r)
		in := wire.Of(s)
		var o wire.Out
		for in.Left() > 0 {
			if r.Intn(2) == 0 {
				n := in.Num()
				o.Num(n)
			} else {
				text := in.Text()
				o.Text(text)
			}
		}
		if in.End() == api.OK {
			accepted++
			wantBytes(t, &o, s)
		}
	}
	if accepted < 5000 {
		t.Errorf("only %d were accepted", accepted)
	}
}

// TestWrittenIsRead: numbers and texts, at once and one by one.
func TestWrittenIsRead(t *testing.T) {
	r := rand.New(rand.NewSource(11))
	for range 3000 {
		var o wire.Out
		var nums []int
		var texts []string
		for range r.Intn(10) {
			nums = append(nums, r.Int()>>r.Intn(64))
			texts = append(texts, someBytes(r.Intn(30), r.Int()))
		}
		o.Num(nums...).Text(texts...)
		for i := range nums {
			o.Fixed(texts[i], 7).Num(nums[i]).Raw(texts[i])
		}
		in := wire.Of(o.Bytes())
		for _, n := range nums {
			if got := in.Num(); got != n {
				t.Fatalf("got %d, want %d", got, n)
			}
		}
		for _, s := range texts {
			if got := in.Text(); got != s {
				t.Fatalf("got %q, want %q", got, s)
			}
		}
		for i := range nums {
			fixed, n, s := in.Raw(7), in.Num(), in.Raw(len(texts[i]))
			if fixed != (texts[i] + zeros(7))[:7] || n != nums[i] || s != texts[i] {
				t.Fatalf("got %q, %d, %q", fixed, n, s)
			}
		}
		wantIn(t, in, 0, api.OK)
	}
}

// TestManyParts: a long text of many small writes.
func TestManyParts(t *testing.T) {
	var o wire.Out
	const count = 200000
	for i := range count {
		o.Num(i)
	}
	s := o.Bytes()
	if len(s) != 8*count {
		t.Fatalf("%d bytes", len(s))
	}
	in := wire.Of(s)
	for i := range count {
		if n := in.Num(); n != i {
			t.Fatalf("got %d, want %d", n, i)
		}
	}
	wantIn(t, in, 0, api.OK)
}
