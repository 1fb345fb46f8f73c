package codec_test

import (
	"bytes"
	"math"
	"testing"

	"gantry/api"
	"gantry/codec"
)

// eachString goes over all strings of at most that length of bytes that matter to a number's form.
func eachString(most int, do func([]byte)) {
	alphabet := []byte{0, 1, 2, 3, 0x7f, 0x80, 0x81, 0xff}
	var grow func(b []byte)
	grow = func(b []byte) {
		do(bytes.Clone(b))
		if len(b) == most {
			return
		}
		for _, c := range alphabet {
			grow(append(b, c))
		}
	}
	grow(nil)
}

// sameAgain reads one thing and lays it down by w.
type sameAgain func(r *codec.Reader, w *codec.Writer)

func sameAgains() []sameAgain {
	return []sameAgain{
		func(r *codec.Reader, w *codec.Writer) { w.Number(r.Number()) },
		func(r *codec.Reader, w *codec.Writer) { w.Int(r.Int(math.MaxInt)) },
		func(r *codec.Reader, w *codec.Writer) { w.Signed(r.Signed(math.MaxInt)) },
		func(r *codec.Reader, w *codec.Writer) { w.Flag(r.Flag()) },
		func(r *codec.Reader, w *codec.Writer) { w.Text(r.Text(math.MaxInt)) },
		func(r *codec.Reader, w *codec.Writer) { w.Int(r.Count(1, math.MaxInt)) },
	}
}

// P1.4: what is read without an error to its end is what a writer lays down of what was read.
func TestReadThenWritten(t *testing.T) {
	calls := sameAgains()
	read := 0
	eachString(5, func(b []byte) {
		for first := range calls {
			for second := range calls {
				r, w := codec.NewReader(b), codec.NewWriter()
				for i := 0; r.Left() > 0 && i <= len(b); i++ {
					calls[[]int{first, second}[i%2]](r, w)
				}
				if e, _ := r.End(); e != api.OK {
					continue
				}
				read++
				if again, e := w.Bytes(); e != api.OK || !bytes.Equal(again, b) {
					t.Fatalf("% x read, % x laid down (%v), by %d and %d", b, again, e, first, second)
				}
			}
		}
	})
	if read == 0 {
		t.Error("nothing was read to its end")
	}
}

// P1.4: what a writer laid down a reader reads in the same order as the same, to the last byte.
func TestWrittenThenRead(t *testing.T) {
	numbers := []uint64{0, 1, math.MaxUint64}
	for bit := range 64 {
		numbers = append(numbers, 1<<bit-1, 1<<bit, 1<<bit+1)
	}
	w := codec.NewWriter()
	for _, n := range numbers {
		w.Number(n)
		w.Int(int(n & math.MaxInt))
		w.Signed(int(n & math.MaxInt))
		w.Signed(-int(n & math.MaxInt))
		w.Flag(n%2 == 1)
		w.Text(string(bytes.Repeat([]byte{byte(n)}, int(n%300))))
		w.Int(3)
		w.Text("ab")
	}
	b, e := w.Bytes()
	if e != api.OK {
		t.Fatal(e)
	}
	r := codec.NewReader(b)
	for _, n := range numbers {
		amount := int(n & math.MaxInt)
		if got := r.Number(); got != n {
			t.Errorf("Number %d: %d", n, got)
		}
		if got := r.Int(amount); got != amount {
			t.Errorf("Int %d: %d", amount, got)
		}
		if up, down := r.Signed(amount), r.Signed(amount); up != amount || down != -amount {
			t.Errorf("Signed %d: %d, %d", amount, up, down)
		}
		if got := r.Flag(); got != (n%2 == 1) {
			t.Errorf("Flag of %d: %v", n, got)
		}
		if got := r.Text(int(n % 300)); got != string(bytes.Repeat([]byte{byte(n)}, int(n%300))) {
			t.Errorf("Text of %d: %q", n, got)
		}
		if got, text := r.Count(1, 3), r.Text(2); got != 3 || text != "ab" {
			t.Errorf("Count behind %d: %d, %q", n, got, text)
		}
	}
	if e, at := r.End(); e != api.OK || at != 0 || r.At() != len(b) || r.Left() != 0 {
		t.Errorf("the end: %v at %d, At %d of %d", e, at, r.At(), len(b))
	}
}

// FuzzReader: P1.3, P1.4 and P1.7 of any bytes, by any order of calls.
func FuzzReader(f *testing.F) {
	f.Add([]byte("\xac\x02\x01\x02ab"), []byte{0, 2, 4})
	f.Add([]byte("\x80\x00"), []byte{0})
	f.Add([]byte("\xff\xff\xff\xff\xff\xff\xff\xff\xff\x01"), []byte{2, 0})
	f.Fuzz(func(t *testing.T, b []byte, order []byte) {
		calls := sameAgains()
		r, w := codec.NewReader(b), codec.NewWriter()
		for _, c := range order {
			from := r.At()
			calls[int(c)%len(calls)](r, w)
			if r.At() < from || r.At()+r.Left() != len(b) {
				t.Fatalf("At %d, Left %d of %d", r.At(), r.Left(), len(b))
			}
		}
		if e, at := r.End(); e != api.OK {
			if at != r.At() {
				t.Fatalf("%v at %d, At %d", e, at, r.At())
			}
			return
		}
		if again, e := w.Bytes(); e != api.OK || !bytes.Equal(again, b) {
			t.Fatalf("% x read, % x laid down", b, again)
		}
	})
}

// FuzzOpen: P1.1 and P1.5 of any bytes.
func FuzzOpen(f *testing.F) {
	f.Add(byte(1), []byte("gtr\x01\x00\x05\x30\x01\x4f"))
	f.Add(byte(2), []byte("gtx"))
	f.Fuzz(func(t *testing.T, kind byte, frame []byte) {
		body, e, at := codec.Open(kind, frame)
		if e != api.OK {
			if len(body) != 0 || at < 0 || at > len(frame) {
				t.Fatalf("%d bytes, %v at %d of %d", len(body), e, at, len(frame))
			}
			return
		}
		if again, e := codec.Seal(kind, body); e != api.OK || !bytes.Equal(again, frame) || at != 0 {
			t.Fatalf("% x taken, % x sealed, %v, %d", frame, again, e, at)
		}
	})
}
