package codec_test

import (
	"math"
	"testing"

	"gantry/api"
	"gantry/codec"
)

// A reading is one call of a reader: what it answered, and whether that is 0, false or the empty text.
type reading struct {
	name string
	call func(*codec.Reader) (answer any, zero bool)
}

func readNumber() reading {
	return reading{"Number", func(r *codec.Reader) (any, bool) { n := r.Number(); return n, n == 0 }}
}

func readInt(most int) reading {
	return reading{"Int", func(r *codec.Reader) (any, bool) { n := r.Int(most); return n, n == 0 }}
}

func readSigned(most int) reading {
	return reading{"Signed", func(r *codec.Reader) (any, bool) { n := r.Signed(most); return n, n == 0 }}
}

func readFlag() reading {
	return reading{"Flag", func(r *codec.Reader) (any, bool) { f := r.Flag(); return f, !f }}
}

func readText(most int) reading {
	return reading{"Text", func(r *codec.Reader) (any, bool) { s := r.Text(most); return s, s == "" }}
}

func readCount(least, most int) reading {
	return reading{"Count", func(r *codec.Reader) (any, bool) { n := r.Count(least, most); return n, n == 0 }}
}

// allReadings make each reading call that there is; some of their arguments may not be.
func allReadings() []reading {
	return []reading{
		readNumber(), readInt(math.MaxInt), readInt(-1), readSigned(math.MaxInt), readSigned(-1),
		readFlag(), readText(9), readText(-1), readCount(1, 9), readCount(0, 9), readCount(1, -1),
	}
}

const ten = "\xff\xff\xff\xff\xff\xff\xff\xff\xff" // nine bytes of a number that has ten

// P1.3: what is read, and how far the reader moves.
func TestReaderTakes(t *testing.T) {
	for _, c := range []struct {
		read  reading
		bytes string
		want  any
		moves int
	}{
		{readNumber(), "\x00", uint64(0), 1},
		{readNumber(), "\x7f", uint64(127), 1},
		{readNumber(), "\x80\x01", uint64(128), 2},
		{readNumber(), "\xac\x02\x05", uint64(300), 2},
		{readNumber(), ten + "\x01", uint64(math.MaxUint64), 10},
		{readNumber(), "\x80\x80\x80\x80\x80\x80\x80\x80\x80\x01", uint64(1 << 63), 10},
		{readInt(0), "\x00", 0, 1},
		{readInt(5), "\x05", 5, 1},
		{readInt(128), "\x80\x01", 128, 2},
		{readInt(math.MaxInt), "\xff\xff\xff\xff\xff\xff\xff\xff\x7f", math.MaxInt, 9},
		{readSigned(0), "\x00", 0, 1},
		{readSigned(1), "\x01", -1, 1},
		{readSigned(1), "\x02", 1, 1},
		{readSigned(2), "\x03", -2, 1},
		{readSigned(math.MaxInt), "\xfe" + ten[1:] + "\x01", math.MaxInt, 10},
		{readSigned(math.MaxInt), "\xfd" + ten[1:] + "\x01", -math.MaxInt, 10},
		{readFlag(), "\x00", false, 1},
		{readFlag(), "\x01", true, 1},
		{readText(0), "\x00", "", 1},
		{readText(9), "\x00a", "", 1},
		{readText(2), "\x02ab", "ab", 3},
		{readText(math.MaxInt), "\x02a\xffc", "a\xff", 3},
		{readCount(1, 9), "\x00", 0, 1},
		{readCount(math.MaxInt, 0), "\x00", 0, 1},
		{readCount(1, 2), "\x02ab", 2, 1},
		{readCount(2, 9), "\x02abcd", 2, 1},
		{readCount(5, 9), "\x01abcde", 1, 1},
	} {
		r := codec.NewReader([]byte(c.bytes))
		got, _ := c.read.call(r)
		if got != c.want || r.At() != c.moves || r.Left() != len(c.bytes)-c.moves {
			t.Errorf("%s of % x: %v, at %d, left %d; want %v, at %d", c.read.name, c.bytes, got, r.At(), r.Left(), c.want, c.moves)
		}
		e, at := r.End()
		if r.Left() == 0 && (e != api.OK || at != 0) || r.Left() > 0 && (e != api.ErrTail || at != c.moves) {
			t.Errorf("%s of % x: the end: %v at %d", c.read.name, c.bytes, e, at)
		}
	}
}

// A refusal is a reading of bytes that comes to that error.
type refusal struct {
	read  reading
	bytes string
	e     api.Errno
}

func refusals() []refusal {
	return []refusal{
		{readNumber(), "", api.ErrShort},
		{readNumber(), "\x80", api.ErrShort},
		{readNumber(), ten, api.ErrShort},
		{readNumber(), "\x80\x00", api.ErrForm},
		{readNumber(), "\xff\x80\x00", api.ErrForm},
		{readNumber(), ten + "\x00", api.ErrForm},
		{readNumber(), ten + "\x02", api.ErrForm},
		{readNumber(), ten + "\x81", api.ErrForm},
		{readNumber(), ten + "\x81\x00", api.ErrForm},
		{readInt(-1), "\x00", api.ErrArg},
		{readInt(math.MinInt), "", api.ErrArg},
		{readInt(0), "\x80", api.ErrShort},
		{readInt(0), "\x81\x00", api.ErrForm},
		{readInt(0), "\x01", api.ErrRange},
		{readInt(4), "\x05a", api.ErrRange},
		{readInt(math.MaxInt), ten + "\x01", api.ErrRange},
		{readInt(math.MaxInt), "\x80\x80\x80\x80\x80\x80\x80\x80\x80\x01", api.ErrRange},
		{readSigned(-1), "\x00", api.ErrArg},
		{readSigned(math.MinInt), "", api.ErrArg},
		{readSigned(9), "", api.ErrShort},
		{readSigned(9), "\x80\x00", api.ErrForm},
		{readSigned(0), "\x01", api.ErrRange},
		{readSigned(0), "\x02", api.ErrRange},
		{readSigned(1), "\x03", api.ErrRange},
		{readSigned(1), "\x04", api.ErrRange},
		{readSigned(math.MaxInt), ten + "\x01", api.ErrRange},
		{readFlag(), "", api.ErrShort},
		{readFlag(), "\x81\x00", api.ErrForm},
		{readFlag(), "\x02", api.ErrRange},
		{readFlag(), "\x81\x01", api.ErrRange},
		{readText(-1), "\x00", api.ErrArg},
		{readText(9), "", api.ErrShort},
		{readText(9), "\x80\x00", api.ErrForm},
		{readText(4), "\x05a", api.ErrRange},
		{readText(4), "\x05abcde", api.ErrRange},
		{readText(9), "\x05a", api.ErrShort},
		{readText(9), "\x05abcd", api.ErrShort},
		{readText(math.MaxInt), "\xff\xff\xff\xff\xff\xff\xff\xff\x7f", api.ErrShort},
		{readText(math.MaxInt), ten + "\x01", api.ErrRange},
		{readCount(0, 9), "\x00", api.ErrArg},
		{readCount(-1, 9), "\x00", api.ErrArg},
		{readCount(math.MinInt, math.MinInt), "", api.ErrArg},
		{readCount(1, -1), "\x00", api.ErrArg},
		{readCount(1, 9), "", api.ErrShort},
		{readCount(1, 9), "\x80\x00", api.ErrForm},
		{readCount(1, 4), "\x05a", api.ErrRange},
		{readCount(1, 9), "\x05a", api.ErrShort},
		{readCount(2, 9), "\x02abc", api.ErrShort},
		{readCount(1<<62, 9), "\x04abcd", api.ErrShort},
		{readCount(math.MaxInt, math.MaxInt), "\xff\xff\xff\xff\xff\xff\xff\xff\x7fab", api.ErrShort},
	}
}

// wantStuck holds against an error and its place what every call answers behind it.
func wantStuck(t *testing.T, r *codec.Reader, e api.Errno, at int, left int) {
	t.Helper()
	for _, next := range allReadings() {
		if answer, zero := next.call(r); !zero {
			t.Errorf("%s behind %v: %v", next.name, e, answer)
		}
		r.Fail(api.ErrTwice)
		r.Fail(api.OK)
		gotE, gotAt := r.End()
		if gotE != e || gotAt != at || r.At() != at || r.Left() != left {
			t.Fatalf("behind %s: %v at %d, At %d, Left %d; want %v at %d, Left %d", next.name, gotE, gotAt, r.At(), r.Left(), e, at, left)
		}
	}
}

// P1.3: errors, their order and place; a call that fails answers 0, moves nothing, and its error stays.
func TestReaderRefuses(t *testing.T) {
	for _, c := range refusals() {
		for _, ahead := range []string{"", "\x00", "\x7f\xac\x02"} {
			r := codec.NewReader([]byte(ahead + c.bytes))
			for r.At() < len(ahead) {
				r.Number()
			}
			if answer, zero := c.read.call(r); !zero {
				t.Errorf("%s of % x: %v", c.read.name, c.bytes, answer)
			}
			if e, at := r.End(); e != c.e || at != len(ahead) {
				t.Errorf("%s of % x: %v at %d; want %v at %d", c.read.name, c.bytes, e, at, c.e, len(ahead))
			}
			wantStuck(t, r, c.e, len(ahead), len(c.bytes))
		}
	}
}

// P1.3: Fail.
func TestReaderFail(t *testing.T) {
	r := codec.NewReader([]byte{1, 2, 3})
	r.Number()
	r.Fail(api.OK)
	if e, at := r.End(); e != api.ErrTail || at != 1 {
		t.Error("Fail(OK):", e, at)
	}
	if r.Number() != 2 {
		t.Error("Fail(OK) stopped the reader")
	}
	r.Fail(api.ErrTree)
	wantStuck(t, r, api.ErrTree, 2, 1)

	atEnd := codec.NewReader(nil)
	atEnd.Fail(api.ErrOrder)
	wantStuck(t, atEnd, api.ErrOrder, 0, 0)

	odd := codec.NewReader([]byte{1})
	odd.Fail(api.Errno(-5))
	wantStuck(t, odd, api.Errno(-5), 0, 1)
}

// P1.3: End changes nothing.
func TestReaderEndChangesNothing(t *testing.T) {
	r := codec.NewReader([]byte{5, 6})
	for i := range 2 {
		for range 2 {
			if e, at := r.End(); e != api.ErrTail || at != i || r.At() != i || r.Left() != 2-i {
				t.Error("bytes are left:", e, at, r.At(), r.Left())
			}
		}
		if n := r.Number(); n != uint64(5+i) {
			t.Error("behind End:", n)
		}
	}
	for range 2 {
		if e, at := r.End(); e != api.OK || at != 0 || r.At() != 2 {
			t.Error("the end:", e, at, r.At())
		}
	}
	if r.Number() != 0 {
		t.Error("a number behind the end")
	}
	if e, at := r.End(); e != api.ErrShort || at != 2 {
		t.Error("a number behind the end:", e, at)
	}
}

// P1.3: a reader that NewReader did not make.
func TestReaderThatNoCallMade(t *testing.T) {
	for _, r := range []*codec.Reader{nil, {}} {
		wantStuck(t, r, api.ErrMade, 0, 0)
	}
}

// P1.3: a reader of nothing is one that was made.
func TestReaderOfNothing(t *testing.T) {
	for _, b := range [][]byte{nil, {}} {
		r := codec.NewReader(b)
		if e, at := r.End(); e != api.OK || at != 0 || r.At() != 0 || r.Left() != 0 {
			t.Error("a reader of nothing:", e, at, r.At(), r.Left())
		}
	}
}

// P1.7: Count answers at most what was left behind its number, divided by least.
func TestCountIsNeverMoreThanIsThere(t *testing.T) {
	for n := range 40 {
		for left := range 40 {
			for least := 1; least <= 41; least++ {
				b := append([]byte{byte(n)}, make([]byte, left)...)
				r := codec.NewReader(b)
				got := r.Count(least, 99)
				e, _ := r.End()
				fits := n*least <= left
				if fits && (got != n || r.Left() != left) || !fits && (got != 0 || e != api.ErrShort) {
					t.Fatalf("Count(%d, 99) of %d with %d behind: %d, %v", least, n, left, got, e)
				}
				if got > left/least {
					t.Fatalf("Count(%d, 99) with %d behind: %d", least, left, got)
				}
			}
		}
	}
}

// P1.7: a hostile length or count costs no memory.
func TestReaderAsksForNoMemoryAhead(t *testing.T) {
	r := codec.NewReader([]byte("\xff\xff\xff\xff\xff\xff\xff\xff\x7f"))
	for _, call := range []func(*codec.Reader){
		func(r *codec.Reader) { r.Text(math.MaxInt) },
		func(r *codec.Reader) { r.Count(1, math.MaxInt) },
	} {
		n := testing.AllocsPerRun(10, func() {
			again := *r
			call(&again)
		})
		if n > 1 {
			t.Errorf("a hostile length: %v allocations", n)
		}
	}
}

// P1.8: a reader goes over the bytes as they were when it was made, and changes none.
func TestReaderSharesNoMemory(t *testing.T) {
	b := []byte("\x02ab\x05")
	r := codec.NewReader(b)
	copy(b, "\xff\xff\xff\xff")
	if s, n := r.Text(2), r.Int(9); s != "ab" || n != 5 {
		t.Errorf("the bytes were kept: %q, %d", s, n)
	}
	if string(b) != "\xff\xff\xff\xff" {
		t.Errorf("the bytes were changed: % x", b)
	}
}
