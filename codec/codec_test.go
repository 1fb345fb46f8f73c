package codec_test

import (
	"bytes"
	"hash/adler32"
	"testing"

	"gantry/api"
	"gantry/codec"
)

// seal answers a frame that must be.
func seal(t *testing.T, kind byte, body []byte) []byte {
	t.Helper()
	frame, e := codec.Seal(kind, body)
	if e != api.OK {
		t.Fatalf("Seal(%d, %d bytes): %v", kind, len(body), e)
	}
	return frame
}

// bodies are ordinary ones and those at which the length takes a byte more.
func bodies() [][]byte {
	var out [][]byte
	for _, n := range []int{0, 1, 2, 9, 126, 127, 128, 129, 300, 16383, 16384} {
		b := make([]byte, n)
		for i := range b {
			b[i] = byte(i*7 + n)
		}
		out = append(out, b)
	}
	return append(out, nil, []byte("Wikipedia"), bytes.Repeat([]byte{0xff}, 6000))
}

// wantOpen holds Open's whole answer against an error and its place.
func wantOpen(t *testing.T, kind byte, frame []byte, e api.Errno, at int) {
	t.Helper()
	body, gotE, gotAt := codec.Open(kind, frame)
	if gotE != e || gotAt != at || len(body) != 0 {
		t.Errorf("Open(%d, % x): %d bytes, %v at %d; want none, %v at %d", kind, frame, len(body), gotE, gotAt, e, at)
	}
}

// P1.1: the sum is Adler-32.
func TestSumOfKnownBytes(t *testing.T) {
	for text, want := range map[string]uint32{"": 1, "a": 0x00620062, "Wikipedia": 0x11e60398} {
		if got := codec.Sum([]byte(text)); got != want {
			t.Errorf("Sum(%q): %x, want %x", text, got, want)
		}
	}
	if codec.Sum(nil) != 1 {
		t.Error("Sum(nil) is not 1")
	}
	for _, b := range append(bodies(), bytes.Repeat([]byte{0xff}, 1<<20)) {
		if got, want := codec.Sum(b), adler32.Checksum(b); got != want {
			t.Errorf("Sum of %d bytes: %x, want %x", len(b), got, want)
		}
	}
}

// P1.1: a frame, byte by byte.
func TestSealLaysTheFrame(t *testing.T) {
	want := []byte{0x67, 0x74, 0x72, 0x01, 0x00, 0x05, 0x30, 0x01, 0x4f}
	if got := seal(t, 1, nil); !bytes.Equal(got, want) {
		t.Errorf("Seal(1, none): % x, want % x", got, want)
	}
	if got := seal(t, 1, []byte{}); !bytes.Equal(got, want) {
		t.Errorf("Seal(1, empty): % x, want % x", got, want)
	}
	body := bytes.Repeat([]byte{'x'}, 300)
	want = append([]byte{'g', 't', 'r', 0xfe, 0xac, 0x02}, body...)
	sum := adler32.Checksum(want)
	want = append(want, byte(sum>>24), byte(sum>>16), byte(sum>>8), byte(sum))
	if got := seal(t, 0xfe, body); !bytes.Equal(got, want) {
		t.Errorf("Seal(254, 300 bytes): % x, want % x", got, want)
	}
}

// P1.1: ErrLong of Seal, and the longest body that may be.
func TestSealOfTheLongestBody(t *testing.T) {
	body := make([]byte, api.MaxBytes+1)
	if frame, e := codec.Seal(1, body); e != api.ErrLong || len(frame) != 0 {
		t.Errorf("Seal of MaxBytes + 1: %d bytes, %v", len(frame), e)
	}
	frame := seal(t, 1, body[:api.MaxBytes])
	if len(frame) != api.MaxBytes+12 {
		t.Errorf("Seal of MaxBytes: %d bytes", len(frame))
	}
	if got, e, at := codec.Open(1, frame); e != api.OK || at != 0 || len(got) != api.MaxBytes {
		t.Errorf("Open of MaxBytes: %d bytes, %v at %d", len(got), e, at)
	}
}

// P1.1: ErrMagic and the place, and ErrShort where bytes are missing ahead of it.
func TestOpenLooksAtTheHead(t *testing.T) {
	wantOpen(t, 1, nil, api.ErrShort, 0)
	wantOpen(t, 1, []byte("g"), api.ErrShort, 1)
	wantOpen(t, 1, []byte("gt"), api.ErrShort, 2)
	wantOpen(t, 1, []byte("gtr"), api.ErrShort, 3)
	wantOpen(t, 1, []byte("gtr\x01"), api.ErrShort, 4)
	wantOpen(t, 1, []byte("x"), api.ErrMagic, 0)
	wantOpen(t, 1, []byte("gx"), api.ErrMagic, 1)
	wantOpen(t, 1, []byte("gtx"), api.ErrMagic, 2)
	wantOpen(t, 1, []byte("gtr\x02"), api.ErrMagic, 3)
	wantOpen(t, 2, seal(t, 1, []byte("a")), api.ErrMagic, 3)
	for i := range 4 {
		frame := seal(t, 7, []byte("body"))
		frame[i] ^= 0x20
		wantOpen(t, 7, frame, api.ErrMagic, i)
		frame[3] ^= 0x40
		wantOpen(t, 7, frame, api.ErrMagic, min(i, 3))
	}
}

// P1.1: the length's form, its bound, and bytes that end in it.
func TestOpenLooksAtTheLength(t *testing.T) {
	for _, c := range []struct {
		length string
		e      api.Errno
		at     int
	}{
		{"\x80", api.ErrShort, 5},
		{"\xff\xff\xff\xff\xff\xff\xff\xff\xff", api.ErrShort, 13},
		{"\x80\x00", api.ErrForm, 4},
		{"\x81\x80\x00", api.ErrForm, 4},
		{"\xff\xff\xff\xff\xff\xff\xff\xff\xff\x02", api.ErrForm, 4},
		{"\xff\xff\xff\xff\xff\xff\xff\xff\xff\x81", api.ErrForm, 4},
		{"\xff\xff\xff\xff\xff\xff\xff\xff\xff\x01", api.ErrLong, 4},
		{"\x81\x80\x80\x08", api.ErrLong, 4},  // MaxBytes + 1
		{"\x80\x80\x80\x08", api.ErrShort, 8}, // MaxBytes
	} {
		wantOpen(t, 3, []byte("gtr\x03"+c.length), c.e, c.at)
	}
}

// P1.1: ErrShort, ErrTail and ErrSum, in that order.
func TestOpenLooksAtWhatFollows(t *testing.T) {
	for _, body := range bodies()[:9] {
		frame := seal(t, 5, body)
		for n := range len(frame) {
			wantOpen(t, 5, frame[:n], api.ErrShort, n)
		}
		wantOpen(t, 5, append(bytes.Clone(frame), 0), api.ErrTail, len(frame))
		wantOpen(t, 5, append(bytes.Clone(frame), frame...), api.ErrTail, len(frame))
		for i := len(frame) - 4 - len(body); i < len(frame); i++ {
			broken := bytes.Clone(frame)
			broken[i] ^= 0x11
			wantOpen(t, 5, broken, api.ErrSum, len(frame)-4)
			wantOpen(t, 5, append(broken, 0), api.ErrTail, len(frame))
		}
	}
}

// P1.1: a length that nothing stands behind costs no memory.
func TestOpenAsksForNoMemoryAhead(t *testing.T) {
	frame := []byte("gtr\x01\x80\x80\x80\x08")
	if n := testing.AllocsPerRun(10, func() { codec.Open(1, frame) }); n > 0 {
		t.Errorf("Open of a hostile length: %v allocations", n)
	}
}

// P1.5: Open of Seal is the body.
func TestOpenOfSealIsTheBody(t *testing.T) {
	for _, body := range bodies() {
		for _, kind := range []byte{0, 1, 127, 128, 255} {
			got, e, at := codec.Open(kind, seal(t, kind, body))
			if e != api.OK || at != 0 || !bytes.Equal(got, body) {
				t.Errorf("Open of Seal(%d, %d bytes): %d bytes, %v at %d", kind, len(body), len(got), e, at)
			}
		}
	}
}

// P1.5: what Open takes is Seal's answer. Each frame here has a right sum, and most another fault.
func TestWhatOpenTakesIsSealed(t *testing.T) {
	taken := 0
	eachString(5, func(middle []byte) {
		frame := append([]byte{'g', 't', 'r', 9}, middle...)
		sum := adler32.Checksum(frame)
		frame = append(frame, byte(sum>>24), byte(sum>>16), byte(sum>>8), byte(sum))
		body, e, _ := codec.Open(9, frame)
		if e != api.OK {
			return
		}
		taken++
		if again := seal(t, 9, body); !bytes.Equal(again, frame) {
			t.Errorf("Open took % x, but Seal answers % x", frame, again)
		}
	})
	if taken == 0 {
		t.Error("no frame was taken")
	}
}

// P1.6: the sum of two parts hangs on both sums and the second's length.
func TestSumOfTwoParts(t *testing.T) {
	const m = 65521
	for _, a := range bodies() {
		for _, b := range bodies() {
			sa, sb := uint64(codec.Sum(a)), uint64(codec.Sum(b))
			low := (sa&0xffff + sb&0xffff + m - 1) % m
			high := (sa>>16 + sb>>16 + uint64(len(b))*((sa&0xffff+m-1)%m)) % m
			got := codec.Sum(append(bytes.Clone(a), b...))
			if uint64(got) != high<<16|low {
				t.Errorf("Sum of %d and %d bytes: %x, want %x", len(a), len(b), got, high<<16|low)
			}
		}
	}
}

// P1.6: one byte turned turns the sum.
func TestOneByteTurnsTheSum(t *testing.T) {
	for _, b := range bodies()[:9] {
		sum := codec.Sum(b)
		for i := range b {
			old := b[i]
			for c := range 256 {
				b[i] = byte(c)
				if (codec.Sum(b) == sum) != (byte(c) == old) {
					t.Fatalf("%d bytes, byte %d from %x to %x: the sum", len(b), i, old, c)
				}
			}
			b[i] = old
		}
	}
}

// P1.8: Sum, Seal and Open neither change nor keep what they are given, and share nothing.
func TestFramesShareNoMemory(t *testing.T) {
	body := append(make([]byte, 0, 64), "body"...)
	frame := seal(t, 1, body)
	frame = append(make([]byte, 0, 64), frame...)
	whole := bytes.Clone(frame)
	codec.Sum(body)
	one, _, _ := codec.Open(1, frame)
	two, _, _ := codec.Open(1, frame)
	if string(body) != "body" || !bytes.Equal(frame, whole) {
		t.Error("an argument was changed")
	}
	copy(one, "XXXX")
	one = append(one, "YYYYYYYY"...)
	if string(two) != "body" || !bytes.Equal(frame, whole) {
		t.Error("Open's answers share memory:", two, frame, one)
	}
	sealed := seal(t, 1, body)
	copy(body, "ZZZZ")
	if !bytes.Equal(sealed, whole) {
		t.Error("Seal's answer shares memory with the body")
	}
	sealed[5] = 'Q'
	if string(body) != "ZZZZ" || !bytes.Equal(seal(t, 1, []byte("body")), whole) {
		t.Error("Seal's answer is kept")
	}
	if string(body[:8][4:]) != "\x00\x00\x00\x00" || !bytes.Equal(frame[:64][len(whole):], make([]byte, 64-len(whole))) {
		t.Error("an argument's spare room was written")
	}
}
