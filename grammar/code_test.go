package grammar_test

import (
	"bytes"
	"runtime"
	"slices"
	"strings"
	"testing"

	"gantry/api"
	"gantry/codec"
	"gantry/grammar"
)

// sealed is the frame of a body.
func sealed(t testing.TB, kind byte, body []byte) []byte {
	frame, e := codec.Seal(kind, body)
	if e != api.OK {
		t.Fatal("Seal:", e)
	}
	return frame
}

// sumBody is the body of sum, byte by byte as the chapter says.
func sumBody() []byte {
	return []byte{
		2, 3, '\'', '+', '\'', 1, 'n',
		1, 1, 'E',
		0,
		2,
		0, 3, 1, 0, 1, 1,
		0, 1, 2, 1,
		0,
	}
}

// calcBody is the body of calc.
func calcBody() []byte {
	return slices.Concat(
		[]byte{5}, []byte("\x01n\x03'+'\x03'*'\x03'-'\x03'='"),
		[]byte{2}, []byte("\x01E\x01S"),
		[]byte{1},
		[]byte{6},
		[]byte{0, 3, 1, 2, 1, 1},
		[]byte{0, 3, 1, 4, 1, 1},
		[]byte{0, 2, 6, 1, 4},
		[]byte{0, 1, 0, 1},
		[]byte{1, 1, 1, 1},
		[]byte{1, 0, 1},
		[]byte{3},
		[]byte{3, 1, 4},
		[]byte{1, 2, 1, 3},
		[]byte{2, 1, 2},
	)
}

// P3.4: the frame's bytes.
func TestEncode(t *testing.T) {
	for _, c := range []struct {
		g    api.Grammar
		body []byte
	}{
		{sum(), sumBody()},
		{calc(), calcBody()},
	} {
		got, e := grammar.Encode(c.g)
		if e != api.OK || !bytes.Equal(got, sealed(t, 1, c.body)) {
			t.Errorf("%v: % x %v", c.g, got, e)
		}
	}
}

// P3.4: Check's error, and no bytes.
func TestEncodeOfWhatMayNotBe(t *testing.T) {
	for _, turn := range turns() {
		g := calc()
		turn.do(&g)
		want, _ := grammar.Check(g)
		if b, e := grammar.Encode(g); e != want || (e == api.OK) != (len(b) > 0) {
			t.Errorf("%s: % x %v, want %v", turn.name, b, e, want)
		}
	}
}

// P3.5: Decode of Encode is the grammar.
func TestThereAndBack(t *testing.T) {
	for _, g := range samples(t) {
		b, e := grammar.Encode(g)
		if e != api.OK {
			t.Fatal(g, e)
		}
		if got, e, at := grammar.Decode(b); e != api.OK || at != 0 || !same(got, g) {
			t.Fatal(g, got, e, at)
		}
	}
}

// takesOneForm answers whether Decode refuses b, with nothing beside the error but a place in it, or b is Encode's answer.
func takesOneForm(b []byte) bool {
	g, e, at := grammar.Decode(b)
	if e != api.OK {
		return isZero(g) && at >= 0 && at <= len(b)
	}
	again, e := grammar.Encode(g)
	return e == api.OK && at == 0 && bytes.Equal(again, b)
}

// P3.5: what Decode takes is Encode's answer to it: every body of sum or calc with one byte turned, left out or put in.
func TestBackAndThere(t *testing.T) {
	taken := 0
	for _, body := range [][]byte{sumBody(), calcBody()} {
		for i := range body {
			others := [][]byte{slices.Delete(slices.Clone(body), i, i+1)}
			for c := range 256 {
				other := slices.Clone(body)
				other[i] = byte(c)
				others = append(others, other, slices.Insert(slices.Clone(body), i, byte(c)))
			}
			for _, other := range others {
				b := sealed(t, 1, other)
				if !takesOneForm(b) {
					t.Fatalf("% x", other)
				}
				if _, e, _ := grammar.Decode(b); e == api.OK {
					taken++
				}
			}
		}
	}
	if taken < 500 {
		t.Error("taken:", taken)
	}
}

// P3.4: Open's errors and places go first.
func TestDecodeFrames(t *testing.T) {
	good := sealed(t, 1, sumBody())
	turned := slices.Clone(good)
	turned[10] ^= 1
	for _, c := range []struct {
		b  []byte
		e  api.Errno
		at int
	}{
		{nil, api.ErrShort, 0},
		{[]byte("gtx"), api.ErrMagic, 2},
		{sealed(t, 2, sumBody()), api.ErrMagic, 3},
		{[]byte("gtr\x01\x80\x00"), api.ErrForm, 4},
		{[]byte("gtr\x01\x81\x80\x80\x08"), api.ErrLong, 4},
		{append(slices.Clone(good), 0), api.ErrTail, len(good)},
		{turned, api.ErrSum, len(good) - 4},
	} {
		g, e, at := grammar.Decode(c.b)
		if e != c.e || at != c.at || !isZero(g) {
			t.Errorf("% x: %v %v %d, want %v %d", c.b, g, e, at, c.e, c.at)
		}
	}
	for n := range good {
		if g, e, at := grammar.Decode(good[:n]); e != api.ErrShort || at != n || !isZero(g) {
			t.Errorf("cut at %d: %v %v %d", n, g, e, at)
		}
	}
}

// number is the form of a number.
func number(n uint64) []byte {
	w := codec.NewWriter()
	w.Number(n)
	b, _ := w.Bytes()
	return b
}

// P3.4: the body's first error, at its place in the frame.
func TestDecodeBodies(t *testing.T) {
	const head, over = "\x01\x01a\x01\x01S", 1 << 31
	join := func(parts ...any) []byte {
		var b []byte
		for _, p := range parts {
			switch v := p.(type) {
			case string:
				b = append(b, v...)
			case int:
				b = append(b, number(uint64(v))...)
			}
		}
		return b
	}
	for _, c := range []struct {
		body []byte
		e    api.Errno
		at   int
	}{
		{nil, api.ErrShort, 0},
		{join("\x01"), api.ErrShort, 0},
		{join("\x03ab"), api.ErrShort, 0},
		{join(over), api.ErrRange, 0},
		{join(over - 1), api.ErrShort, 0},
		{join("\x80\x00"), api.ErrForm, 0},
		{join("\x02\x01a\x05b"), api.ErrShort, 3},
		{join("\x01", 65537, strings.Repeat("a", 65537)), api.ErrRange, 1},
		{join("\x01\x01a", over), api.ErrRange, 3},
		{join("\x01\x01a\x01", 65537, strings.Repeat("a", 65537)), api.ErrRange, 4},
		{join(head), api.ErrShort, 6},
		{join(head, over), api.ErrRange, 6},
		{join(head, "\x00\x02\x00"), api.ErrShort, 7},
		{join(head, "\x00", over), api.ErrRange, 7},
		{join(head, "\x00\x01", over), api.ErrRange, 8},
		{join(head, "\x00\x01\x00", over), api.ErrRange, 9},
		{join(head, "\x00\x01\x00\x01", over), api.ErrRange, 10},
		{join(head, "\x00\x01\x00\x01\x00", 2*over), api.ErrRange, 11},
		{join(head, "\x00\x01\x00\x01\x00", 2*over-1), api.ErrRange, 11},
		{join(head, "\x00\x01\x00\x01\x00\x01", over), api.ErrRange, 12},
		{join(head, "\x00\x01\x00\x01\x00\x01\x01", over), api.ErrRange, 13},
		{join(head, "\x00\x01\x00\x01\x00\x01\x01\x01", over), api.ErrRange, 14},
		{join(head, "\x00\x01\x00\x01\x00\x01\x01\x01\x01", over), api.ErrRange, 15},
		{join(head, "\x00\x01\x00\x01\x00\x01\x01\x01\x02\x00"), api.ErrShort, 14},
		{join(head, "\x00\x01\x00\x01\x00\x01\x00\x00"), api.ErrTail, 13},
		{join("\x00\x00\x00\x00\x00\x00"), api.ErrTail, 5},
	} {
		b := sealed(t, 1, c.body)
		begin := len(b) - 4 - len(c.body)
		g, e, at := grammar.Decode(b)
		if e != c.e || at != begin+c.at || !isZero(g) {
			t.Errorf("%.40q: %v %v %d, want %v %d", c.body, g, e, at, c.e, begin+c.at)
		}
	}
}

// P3.4: then Check's error, at the place where the body begins, which is later where its length has two bytes.
func TestDecodeChecks(t *testing.T) {
	const over = 1<<31 - 1
	long := append(append([]byte("\x01"), number(65536)...), strings.Repeat("a", 65536)...)
	for _, c := range []struct {
		body []byte
		e    api.Errno
		at   int
	}{
		{[]byte("\x00\x00\x00\x00\x00"), api.ErrTerms, 5},
		{[]byte("\x01\x01a\x00\x00\x00\x00"), api.ErrNons, 5},
		{[]byte("\x01\x01-\x01\x01S\x00\x01\x00\x00\x01\x00"), api.ErrName, 5},
		{[]byte("\x01\x01a\x01\x01a\x00\x01\x00\x00\x01\x00"), api.ErrTwice, 5},
		{[]byte("\x01\x01a\x01\x01S\x01\x01\x00\x00\x01\x00"), api.ErrStart, 5},
		{slices.Concat([]byte("\x01\x01a\x01\x01S"), number(over), []byte("\x01\x00\x00\x01\x00")), api.ErrStart, 5},
		{[]byte("\x01\x01a\x01\x01S\x00\x00\x00"), api.ErrProds, 5},
		{slices.Concat([]byte("\x01\x01a\x01\x01S\x00\x01"), number(over), []byte("\x00\x01\x00")), api.ErrSymbol, 5},
		{slices.Concat([]byte("\x01\x01a\x01\x01S\x00\x01\x00\x01"), number(over), []byte("\x01\x00")), api.ErrSymbol, 5},
		{slices.Concat([]byte("\x01\x01a\x01\x01S\x00\x01\x00\x00"), number(2*over), []byte("\x00")), api.ErrPrec, 5},
		{slices.Concat([]byte("\x01\x01a\x01\x01S\x00\x01\x00\x00"), number(2*over-1), []byte("\x00")), api.ErrPrec, 5},
		{slices.Concat([]byte("\x01\x01a\x01\x01S\x00\x01\x00\x00\x01\x01"), number(over), []byte("\x01\x00")), api.ErrLevel, 5},
		{slices.Concat([]byte("\x01\x01a\x01\x01S\x00\x01\x00\x00\x01\x01\x01\x01"), number(over)), api.ErrRange, 5},
		{[]byte("\x01\x01a\x01\x01S\x00\x02\x00\x00\x01\x00\x00\x01\x00"), api.ErrTwice, 5},
		{append(append([]byte("\x01\x01a\x01\x01S\x00\x01\x00\x11"), make([]byte, 17)...), 1, 0), api.ErrRight, 5},
		{slices.Concat([]byte("\x41"), bytes.Repeat([]byte("\x01a"), 65), []byte("\x01\x01S\x00\x01\x00\x00\x01\x00")), api.ErrTerms, 6},
		{append(long, "\x01\x01S\x00\x01\x00\x00\x01\x00"...), api.ErrName, 7},
	} {
		if g, e, at := grammar.Decode(sealed(t, 1, c.body)); e != c.e || at != c.at || !isZero(g) {
			t.Errorf("%.40q: %v %v %d, want %v %d", c.body, g, e, at, c.e, c.at)
		}
	}
}

// P3.4: a fault of the body goes ahead of one of the grammar's, wherever they stand.
func TestDecodeReadsAllAheadOfChecks(t *testing.T) {
	g, e, at := grammar.Decode(sealed(t, 1, []byte("\x00\x00\x00\x00\x80\x00")))
	if e != api.ErrForm || at != 9 || !isZero(g) {
		t.Error(g, e, at)
	}
}

// P3.4: counts that the bytes could bear, but do not, ask for no memory.
func TestDecodeAsksForLittle(t *testing.T) {
	const size = 1 << 20
	for _, head := range []string{"", "\x00", "\x01\x01a\x01\x01S\x00", "\x01\x01a\x01\x01S\x00\x01\x00", "\x01\x01a\x01\x01S\x00\x01\x00\x00\x01", "\x01\x01a\x01\x01S\x00\x01\x00\x00\x01\x01\x01"} {
		// Behind the count no number is in its form, and no text's length within its bound.
		body := slices.Concat([]byte(head), number(size), bytes.Repeat([]byte{0xff}, size))
		b := sealed(t, 1, body)
		var before, after runtime.MemStats
		runtime.ReadMemStats(&before)
		_, e, _ := grammar.Decode(b)
		runtime.ReadMemStats(&after)
		if asked := after.TotalAlloc - before.TotalAlloc; e != api.ErrForm || asked > 4*uint64(len(b)) {
			t.Errorf("%q: %v, asked for %d bytes", head, e, asked)
		}
	}
}

// P3.5: whatever bytes there are.
func FuzzDecode(f *testing.F) {
	f.Add(sumBody())
	f.Add(calcBody())
	f.Fuzz(func(t *testing.T, body []byte) {
		if !takesOneForm(body) || !takesOneForm(sealed(t, 1, body)) {
			t.Errorf("% x", body)
		}
	})
}
