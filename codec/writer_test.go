package codec_test

import (
	"bytes"
	"math"
	"strings"
	"testing"

	"gantry/api"
	"gantry/codec"
)

// laid answers what a new writer lays down by these calls.
func laid(t *testing.T, calls ...func(*codec.Writer)) []byte {
	t.Helper()
	w := codec.NewWriter()
	for _, call := range calls {
		call(w)
	}
	b, e := w.Bytes()
	if e != api.OK {
		t.Fatal("Bytes:", e)
	}
	return b
}

func number(n uint64) func(*codec.Writer) {
	return func(w *codec.Writer) { w.Number(n) }
}

func signed(n int) func(*codec.Writer) {
	return func(w *codec.Writer) { w.Signed(n) }
}

// everyCall makes each call that a writer has.
func everyCall(w *codec.Writer) {
	w.Number(300)
	w.Int(1)
	w.Signed(-1)
	w.Flag(true)
	w.Text("ab")
}

// P1.2: the one form of a number.
func TestWriterNumber(t *testing.T) {
	for _, c := range []struct {
		n    uint64
		want string
	}{
		{0, "\x00"}, {1, "\x01"}, {127, "\x7f"}, {128, "\x80\x01"}, {300, "\xac\x02"},
		{16383, "\xff\x7f"}, {16384, "\x80\x80\x01"},
		{1<<63 - 1, "\xff\xff\xff\xff\xff\xff\xff\xff\x7f"},
		{1 << 63, "\x80\x80\x80\x80\x80\x80\x80\x80\x80\x01"},
		{math.MaxUint64, "\xff\xff\xff\xff\xff\xff\xff\xff\xff\x01"},
	} {
		if got := laid(t, number(c.n)); string(got) != c.want {
			t.Errorf("Number(%d): % x, want % x", c.n, got, c.want)
		}
	}
}

// P1.2: Int, Signed, Flag and Text.
func TestWriterForms(t *testing.T) {
	for _, c := range []struct {
		name string
		call func(*codec.Writer)
		want string
	}{
		{"Int(0)", func(w *codec.Writer) { w.Int(0) }, "\x00"},
		{"Int(128)", func(w *codec.Writer) { w.Int(128) }, "\x80\x01"},
		{"Int(MaxInt)", func(w *codec.Writer) { w.Int(math.MaxInt) }, "\xff\xff\xff\xff\xff\xff\xff\xff\x7f"},
		{"Signed(0)", signed(0), "\x00"},
		{"Signed(-1)", signed(-1), "\x01"},
		{"Signed(1)", signed(1), "\x02"},
		{"Signed(-2)", signed(-2), "\x03"},
		{"Signed(-64)", signed(-64), "\x7f"},
		{"Signed(64)", signed(64), "\x80\x01"},
		{"Signed(MaxInt)", signed(math.MaxInt), "\xfe\xff\xff\xff\xff\xff\xff\xff\xff\x01"},
		{"Signed(MinInt)", signed(math.MinInt), "\xff\xff\xff\xff\xff\xff\xff\xff\xff\x01"},
		{"Flag(false)", func(w *codec.Writer) { w.Flag(false) }, "\x00"},
		{"Flag(true)", func(w *codec.Writer) { w.Flag(true) }, "\x01"},
		{"Text of none", func(w *codec.Writer) { w.Text("") }, "\x00"},
		{"Text(ab)", func(w *codec.Writer) { w.Text("ab") }, "\x02ab"},
		{"Text of 128", func(w *codec.Writer) { w.Text(strings.Repeat("\xff", 128)) }, "\x80\x01" + strings.Repeat("\xff", 128)},
	} {
		if got := laid(t, c.call); string(got) != c.want {
			t.Errorf("%s: % x, want % x", c.name, got, c.want)
		}
	}
}

// P1.2: what is laid down stands in order, and Bytes may be asked at any time.
func TestWriterOrder(t *testing.T) {
	w := codec.NewWriter()
	if b, e := w.Bytes(); e != api.OK || len(b) != 0 {
		t.Error("nothing laid down:", b, e)
	}
	want := ""
	for _, step := range []struct {
		call func()
		adds string
	}{
		{func() { w.Number(300) }, "\xac\x02"},
		{func() { w.Text("ab") }, "\x02ab"},
		{func() { w.Flag(true) }, "\x01"},
		{func() { w.Int(5) }, "\x05"},
		{func() { w.Signed(-3) }, "\x05"},
		{func() { w.Text("") }, "\x00"},
	} {
		step.call()
		want += step.adds
		for range 2 {
			if b, e := w.Bytes(); e != api.OK || string(b) != want {
				t.Errorf("Bytes: % x, %v, want % x", b, e, want)
			}
		}
	}
}

// P1.2: an int below 0 is ErrRange, and the first error stays.
func TestWriterFirstErrorStays(t *testing.T) {
	for _, n := range []int{-1, math.MinInt} {
		w := codec.NewWriter()
		w.Text("ahead")
		w.Int(n)
		for range 2 {
			if b, e := w.Bytes(); e != api.ErrRange || len(b) != 0 {
				t.Errorf("behind Int(%d): % x, %v", n, b, e)
			}
			everyCall(w)
			w.Int(n)
		}
	}
}

// P1.2: a writer that NewWriter did not make.
func TestWriterThatNoCallMade(t *testing.T) {
	for name, w := range map[string]*codec.Writer{"nil": nil, "zero": {}} {
		for range 2 {
			if b, e := w.Bytes(); e != api.ErrMade || len(b) != 0 {
				t.Errorf("%s: % x, %v", name, b, e)
			}
			everyCall(w)
			w.Int(-1)
		}
	}
}

// P1.8: what Bytes answers is nobody else's, its spare room too.
func TestWriterSharesNoMemory(t *testing.T) {
	w := codec.NewWriter()
	w.Text("ab")
	one, _ := w.Bytes()
	two, _ := w.Bytes()
	copy(one, "XXX")
	_ = append(one, 'Y')
	w.Text("cd")
	_ = append(two, 'Z')
	three, _ := w.Bytes()
	if string(two) != "\x02ab" || string(three) != "\x02ab\x02cd" {
		t.Errorf("answers share memory: % x, % x", two, three)
	}
}

// P1.8: a copied writer does not write over the bytes of the one that it was copied from.
func TestWriterCopied(t *testing.T) {
	w := codec.NewWriter()
	for i := range 9 {
		w.Int(i)
	}
	copied := *w
	w.Int(77)
	want, _ := w.Bytes()
	copied.Int(88)
	if got, e := w.Bytes(); e != api.OK || !bytes.HasPrefix(got, want) {
		t.Errorf("% x behind a copy's call: % x, %v", want, got, e)
	}
}
