package trees_test

import (
	"bytes"
	"math"
	"math/rand"
	"runtime"
	"strings"
	"testing"

	"gantry/api"
	"gantry/codec"
	"gantry/trees"
)

// sealed is the frame of a body, and where the body begins in it.
func sealed(body []byte) ([]byte, int) {
	frame, e := codec.Seal(3, body)
	if e != api.OK {
		panic(e)
	}
	return frame, len(frame) - 4 - len(body)
}

// heldCode asks Encode, and if there is a code Decode.
func heldCode(t *testing.T, x api.Tree) api.Errno {
	t.Helper()
	got, e := trees.Encode(x)
	body, want := modelBody(x)
	if want != api.OK {
		if e != want || got != nil {
			t.Fatalf("Encode of %v: %v, %v, want %v", x, got, e, want)
		}
		return e
	}
	if frame, _ := sealed(body); e != api.OK || !bytes.Equal(got, frame) {
		t.Fatalf("Encode of %v: % x, %v, want % x", x, got, e, frame)
	}
	if back, e, at := trees.Decode(got); e != api.OK || at != 0 || !modelSame(back, x) {
		t.Fatalf("Decode of % x: %v, %v, %d, want %v", got, back, e, at, x)
	}
	if len(placesOf(x)) > len(got) {
		t.Fatal("more places than bytes:", x)
	}
	return e
}

// codeFillings are places that have a code, and such that have none.
func codeFillings() []api.Tree {
	return []api.Tree{
		leaf(0), leaf(-1), leaf(300), {Prod: -1, Tok: api.Token{Kind: 7, Text: "a\x00\xffb"}},
		leaf(1 << 62), leaf(-1 << 62), leaf(1<<62 + 1), leaf(-1<<62 - 1),
		node(0), node(127), node(1 << 30), node(1<<30 + 1), node(-2),
		{Prod: 1, Tok: api.Token{Kind: 1}}, {Prod: 1, Tok: api.Token{Text: "x"}},
	}
}

// P8.4, P8.8: every tree of at most three places, the right ones there and back.
func TestSmallCodes(t *testing.T) {
	answers := map[api.Errno]int{}
	for places := 1; places <= 3; places++ {
		for _, shape := range shapes(places) {
			eachFilled(shape, codeFillings(), func(x api.Tree) { answers[heldCode(t, x)]++ })
		}
	}
	for _, e := range []api.Errno{api.OK, api.ErrRange, api.ErrLeaf} {
		if answers[e] == 0 {
			t.Error("never answered:", e)
		}
	}
}

// P8.4, P8.8: greater trees.
func TestGreaterCodes(t *testing.T) {
	r := rand.New(rand.NewSource(840))
	for range 3000 {
		heldCode(t, anyTree(r, 15))
		g := anyGrammar(r, 3, 3, 8, 3)
		for _, x := range anyTrees(r, g, 3) {
			if e := heldCode(t, x); e != api.OK {
				t.Fatal(x, e)
			}
		}
	}
}

// P8.4: the form itself, and the numbers at the edges.
func TestEncodeByHand(t *testing.T) {
	frame, e := trees.Encode(node(0, api.Tree{Prod: -1, Tok: api.Token{Kind: -2, Text: "ab"}}, node(300)))
	want, _ := sealed([]byte{1, 2, 0, 3, 2, 'a', 'b', 0xad, 0x02, 0})
	if e != api.OK || !bytes.Equal(frame, want) {
		t.Errorf("% x, %v, want % x", frame, e, want)
	}
	if !bytes.Equal(frame[:5], []byte{'g', 't', 'r', 3, 10}) {
		t.Errorf("% x", frame)
	}
	withKids := api.Tree{Prod: -1, Kids: []api.Tree{node(-2)}}
	strange := withKids
	strange.Tok.Kind = math.MinInt
	for _, c := range []struct {
		tree api.Tree
		e    api.Errno
	}{
		{leaf(1 << 62), api.OK},
		{leaf(-1 << 62), api.OK},
		{leaf(1<<62 + 1), api.ErrRange},
		{leaf(-1<<62 - 1), api.ErrRange},
		{leaf(math.MinInt), api.ErrRange},
		{leaf(math.MaxInt), api.ErrRange},
		{node(1 << 30), api.OK},
		{node(1<<30 + 1), api.ErrRange},
		{node(math.MaxInt), api.ErrRange},
		{node(-2), api.ErrRange},
		{node(math.MinInt), api.ErrRange},
		{withKids, api.ErrLeaf}, // ahead of its kid
		{strange, api.ErrRange}, // of one place ErrRange goes ahead
		{node(0, withKids, node(-2)), api.ErrLeaf},
		{node(0, leaf(0), node(-2), withKids), api.ErrRange},
	} {
		if b, e := trees.Encode(c.tree); e != c.e || (b == nil) != (e != api.OK) {
			t.Errorf("Encode of %v: %v, %v, want %v", c.tree, b, e, c.e)
		}
	}
}

// P8.4: a body of MaxBytes bytes may be, one more is too long; a fault of a place goes ahead, wherever it stands.
func TestLongCodes(t *testing.T) {
	text := strings.Repeat("x", api.MaxBytes)
	// A leaf's number, Kind, and a length of four bytes.
	fits := api.Tree{Prod: -1, Tok: api.Token{Text: text[:api.MaxBytes-6]}}
	frame, e := trees.Encode(fits)
	if e != api.OK {
		t.Fatal("Encode:", e)
	}
	if back, e, at := trees.Decode(frame); e != api.OK || at != 0 || !modelSame(back, fits) {
		t.Error("Decode:", e, at)
	}
	long := api.Tree{Prod: -1, Tok: api.Token{Text: text[:api.MaxBytes-5]}}
	full, wide := manyNodes(1024), manyNodes(1025)
	for _, x := range []api.Tree{long, wide, {Prod: -1, Tok: api.Token{Text: text}}, {Prod: -1, Tok: api.Token{Text: text + text}}} {
		if b, e := trees.Encode(x); e != api.ErrLong || b != nil {
			t.Error("too long:", len(b), e)
		}
		if b, e := trees.Encode(node(0, x, node(-2))); e != api.ErrRange || b != nil {
			t.Error("a fault behind:", len(b), e)
		}
		if b, e := trees.Encode(node(0, x, api.Tree{Prod: -1, Kids: []api.Tree{leaf(0)}})); e != api.ErrLeaf || b != nil {
			t.Error("a fault behind:", len(b), e)
		}
	}
	if b, e := trees.Encode(full); e != api.OK || len(b) != 8+api.MaxBytes+4 {
		t.Error("full:", len(b), e)
	}
}

// manyNodes has a body of 2048 bytes less than MaxBytes, beside two for each of the last: its parts stand in many places, to need little memory.
func manyNodes(last int) api.Tree {
	row := node(0, make([]api.Tree, 4096)...) // 3 bytes, and two for each kid
	x := node(0)                              // 3 bytes
	for range 2047 {
		x.Kids = append(x.Kids, row)
	}
	x.Kids = append(x.Kids, make([]api.Tree, last)...)
	return x
}

// allocated is how many bytes of memory were asked for meanwhile.
func allocated(do func()) uint64 {
	var before, behind runtime.MemStats
	runtime.ReadMemStats(&before)
	do()
	runtime.ReadMemStats(&behind)
	return behind.TotalAlloc - before.TotalAlloc
}

// P8.4: a tree whose parts stand in very many places is too long, and nobody asks for the memory of its code.
func TestManyPlaces(t *testing.T) {
	x := leaf(0)
	for range 25 {
		x = node(0, x, x)
	}
	if p, l, h := trees.Measure(x); p != 1<<26-1 || l != 1<<25 || h != 25 {
		t.Error(p, l, h)
	}
	var e api.Errno
	if n := allocated(func() { _, e = trees.Encode(x) }); e != api.ErrLong || n > 1<<28 {
		t.Error("Encode:", e, n)
	}
}

// heldDecode asks Decode of a body's frame, and the model.
func heldDecode(t *testing.T, body []byte) api.Errno {
	t.Helper()
	frame, begin := sealed(body)
	got, e, at := trees.Decode(frame)
	want, wantE, place := modelDecode(body, begin)
	if e != wantE || at != place || !modelSame(got, want) {
		t.Fatalf("Decode of % x: %v, %v, %d, want %v, %v, %d", body, got, e, at, want, wantE, place)
	}
	if e == api.OK {
		if again, e := trees.Encode(got); e != api.OK || !bytes.Equal(again, frame) {
			t.Fatalf("Encode of %v: % x, %v, want % x", got, again, e, frame)
		}
		if len(placesOf(got)) > len(frame) {
			t.Fatal("more places than bytes:", got)
		}
	}
	return e
}

// P8.4, P8.8: every body of at most six of some bytes, against a reader that goes down by recursion.
func TestSmallBodies(t *testing.T) {
	answers := map[api.Errno]int{}
	some := []byte{0, 1, 2, 3, 0x80, 0xff}
	bodies := [][]byte{nil}
	for size := 0; size <= 6; size++ {
		var next [][]byte
		for _, body := range bodies {
			answers[heldDecode(t, body)]++
			for _, c := range some {
				next = append(next, append(bytes.Clone(body), c))
			}
		}
		bodies = next
	}
	for _, e := range []api.Errno{api.OK, api.ErrShort, api.ErrForm, api.ErrTail} {
		if answers[e] < 100 {
			t.Error("too seldom answered:", e, answers[e])
		}
	}
}

// P8.4, P8.8: bodies of right trees with bytes turned, in and out.
func TestTurnedBodies(t *testing.T) {
	r := rand.New(rand.NewSource(841))
	answers := map[api.Errno]int{}
	for range 2000 {
		for _, x := range anyTrees(r, anyGrammar(r, 3, 3, 8, 3), 3) {
			body, _ := modelBody(x)
			for range 1 + r.Intn(2) {
				at := r.Intn(len(body) + 1)
				switch c := byte(r.Intn(256) & r.Intn(256)); {
				case r.Intn(3) == 0:
					body = bytes.Join([][]byte{body[:at], body[at:]}, []byte{c})
				case at < len(body):
					body = append(append(bytes.Clone(body[:at]), c), body[at+1:]...)
				}
			}
			answers[heldDecode(t, body)]++
		}
	}
	for _, e := range []api.Errno{api.OK, api.ErrShort, api.ErrForm, api.ErrTail} {
		if answers[e] == 0 {
			t.Error("never answered:", e)
		}
	}
}

// laid is what a script lays down.
func laid(do func(*codec.Writer)) []byte {
	w := codec.NewWriter()
	do(w)
	b, e := w.Bytes()
	if e != api.OK {
		panic(e)
	}
	return b
}

// P8.4: the greatest numbers of a body, and one more; their places.
func TestDecodeByHand(t *testing.T) {
	for _, c := range []struct {
		body []byte
		e    api.Errno
		at   int
	}{
		{nil, api.ErrShort, 0},
		{laid(func(w *codec.Writer) { w.Int(1<<30 + 1); w.Int(0) }), api.OK, 0},
		{laid(func(w *codec.Writer) { w.Int(1<<30 + 2); w.Int(0) }), api.ErrRange, 0},
		{laid(func(w *codec.Writer) { w.Number(math.MaxUint64); w.Int(0) }), api.ErrRange, 0},
		{laid(func(w *codec.Writer) { w.Int(0); w.Signed(1 << 62); w.Text("") }), api.OK, 0},
		{laid(func(w *codec.Writer) { w.Int(0); w.Signed(-1 << 62); w.Text("") }), api.OK, 0},
		{laid(func(w *codec.Writer) { w.Int(0); w.Signed(1<<62 + 1); w.Text("") }), api.ErrRange, 1},
		{laid(func(w *codec.Writer) { w.Int(0); w.Signed(-1<<62 - 1); w.Text("") }), api.ErrRange, 1},
		{laid(func(w *codec.Writer) { w.Int(0); w.Signed(math.MinInt); w.Text("") }), api.ErrRange, 1},
		{laid(func(w *codec.Writer) { w.Int(0); w.Signed(0); w.Int(api.MaxBytes) }), api.ErrShort, 2},
		{laid(func(w *codec.Writer) { w.Int(0); w.Signed(0); w.Int(api.MaxBytes + 1) }), api.ErrRange, 2},
		{laid(func(w *codec.Writer) { w.Int(1); w.Int(1 << 30) }), api.ErrShort, 1},
		{laid(func(w *codec.Writer) { w.Int(1); w.Int(1<<30 + 1) }), api.ErrRange, 1},
		{[]byte{1, 2, 1, 0}, api.ErrShort, 4}, // the second kid is missing
		{[]byte{1, 1}, api.ErrShort, 1},       // no byte for a kid
		{[]byte{1, 1, 0x80, 0}, api.ErrForm, 2},
		{[]byte{1, 0, 1, 0}, api.ErrTail, 2},
		{[]byte{1, 1, 0, 0, 0, 0x80}, api.ErrTail, 5}, // what goes on is not read
		{[]byte{0, 0, 1}, api.ErrShort, 2},
	} {
		frame, begin := sealed(c.body)
		at := begin + c.at
		if c.e == api.OK {
			at = 0
		}
		if x, e, place := trees.Decode(frame); e != c.e || place != at || e != api.OK && !isZero(x) {
			t.Errorf("Decode of % x: %v, %v, %d, want %v, %d", c.body, x, e, place, c.e, at)
		}
	}
}

// P8.4: what codec.Open refuses, with its place; all of a frame's cuts and turned bytes.
func TestWrongFrames(t *testing.T) {
	frame, _ := trees.Encode(node(0, leaf(0), node(1, leaf(1))))
	for at := range frame {
		if x, e, place := trees.Decode(frame[:at]); e != api.ErrShort || place != at || !isZero(x) {
			t.Error("cut:", at, x, e, place)
		}
		turned := bytes.Clone(frame)
		turned[at] ^= 0x40
		_, want, wantAt := codec.Open(3, turned)
		if x, e, place := trees.Decode(turned); e == api.OK || e != want || place != wantAt || !isZero(x) {
			t.Error("turned:", at, x, e, place)
		}
	}
	if _, e, place := trees.Decode(append(bytes.Clone(frame), 0)); e != api.ErrTail || place != len(frame) {
		t.Error("longer:", e, place)
	}
	other, _ := codec.Seal(1, []byte{1, 0})
	if _, e, place := trees.Decode(other); e != api.ErrMagic || place != 3 {
		t.Error("another kind:", e, place)
	}
}

// P8.4, G5: nodes that say that they have as many kids as there are bytes, one in the other, make nobody ask for more memory than a fixed multiple of the bytes.
func TestHostileCounts(t *testing.T) {
	w := codec.NewWriter()
	const nodes = 100000
	for range nodes {
		w.Int(1)
		w.Int(nodes)
	}
	for range nodes {
		w.Int(0)
	}
	body, _ := w.Bytes()
	frame, _ := sealed(body)
	var e api.Errno
	if n := allocated(func() { _, e, _ = trees.Decode(frame) }); e == api.OK || n > 200*uint64(len(frame)) {
		t.Error(e, n, len(frame))
	}
	flat := make([]byte, 1<<20)
	for i := range flat[:1<<20-1] {
		flat[i] = 1 // each node has one kid
	}
	frame, _ = sealed(flat)
	if n := allocated(func() { _, e, _ = trees.Decode(frame) }); e != api.OK || n > 200*uint64(len(frame)) {
		t.Error(e, n, len(frame))
	}
}

// FuzzDecode: P8.4 and P8.8 of any body.
func FuzzDecode(f *testing.F) {
	f.Add([]byte{1, 2, 0, 3, 2, 'a', 'b', 0xad, 0x02, 0})
	f.Add([]byte{1, 1, 1, 0})
	f.Fuzz(func(t *testing.T, body []byte) {
		if len(body) < 1<<16 {
			heldDecode(t, body)
		}
	})
}
