package bundle_test

import (
	"bytes"
	"math"
	"math/rand"
	"runtime"
	"slices"
	"testing"

	"gantry/api"
	"gantry/bundle"
	"gantry/codec"
)

// some has something of all.
func some() api.Bundle {
	return api.Bundle{
		Table: api.Table{Rows: []api.Row{
			{Default: -1, Acts: []api.Action{{Kind: api.ActShift, Arg: 5}, {Kind: api.ActAccept}, {Kind: api.ActReduce, Arg: 300}}, Gotos: []int{-1, 4}},
			{Default: 3, Acts: make([]api.Action, 3), Gotos: []int{1, 0}},
		}},
		Cert: api.Cert{
			Nullable:   []bool{true, false},
			First:      [][]int{{1, 2}, nil},
			Items:      [][]api.Item{{{Prod: -1, Dot: 0, Look: []int{7}}, {Prod: 0, Dot: 2}}, nil},
			Incoming:   []api.Sym{{}, non(2)},
			PastSyms:   [][]api.Sym{nil, {term(1), {}, non(0), term(0)}},
			PastStates: [][][]int{nil, {{0}, nil, {1, 2}}},
		},
	}
}

// someBody is some's body, byte by byte as the chapter says.
func someBody() []byte {
	return slices.Concat(
		[]byte{2, 3, 2},
		[]byte{0, 12, 1, 0xdb, 0x04, 0, 5},
		[]byte{4, 0, 0, 0, 2, 1},
		[]byte{2, 1, 0},
		[]byte{2, 2, 1, 2, 0},
		[]byte{2, 2, 0, 0, 1, 7, 1, 2, 0, 0},
		[]byte{2, 0, 6},
		[]byte{2, 0, 4, 3, 0, 2, 1},
		[]byte{2, 0, 3, 1, 0, 0, 2, 1, 2},
	)
}

// heldOfBundle asks Encode and Size, and of a code Decode, and answers Encode's error.
func heldOfBundle(t *testing.T, b api.Bundle) api.Errno {
	t.Helper()
	frame, e := bundle.Encode(b)
	want, wantE := modelEncode(b)
	if e != wantE || !bytes.Equal(frame, want) || e != api.OK && frame != nil {
		t.Fatalf("Encode of %v: % x, %v, want % x, %v", b, frame, e, want, wantE)
	}
	if n, f := bundle.Size(b); n != len(want) || f != wantE {
		t.Fatalf("Size of %v: %d, %v, want %d, %v", b, n, f, len(want), wantE)
	}
	if e != api.OK {
		return e
	}
	if back, e, at := bundle.Decode(frame); e != api.OK || at != 0 || !same(back, b) {
		t.Fatalf("Decode of % x: %v, %v, %d, want %v", frame, back, e, at, b)
	}
	return e
}

// heldOfBody asks Decode of a body's frame, and of what it takes Encode, and answers Decode's error.
func heldOfBody(t *testing.T, body []byte) api.Errno {
	t.Helper()
	frame, begin := sealed(body)
	b, e, at := bundle.Decode(frame)
	want, wantE, place := modelDecode(body)
	if wantE != api.OK {
		place += begin
	}
	if e != wantE || at != place || !same(b, want) {
		t.Fatalf("Decode of % x: %v, %v, %d, want %v, %v, %d", body, b, e, at, want, wantE, place)
	}
	if e != api.OK {
		return e
	}
	if again, e := bundle.Encode(b); e != api.OK || !bytes.Equal(again, frame) {
		t.Fatalf("Encode of %v: % x, %v, want % x", b, again, e, frame)
	}
	if things(b) > len(frame) {
		t.Fatalf("% x: more things than bytes: %v", body, b)
	}
	return e
}

// oftenAnswered asks that each of these errors was answered so often.
func oftenAnswered(t *testing.T, answers map[api.Errno]int, least int, all ...api.Errno) {
	t.Helper()
	for _, e := range all {
		if answers[e] < least {
			t.Error("too seldom answered:", e, answers[e])
		}
	}
}

// P17.1: example 1, whole.
func TestEmpty(t *testing.T) {
	want := []byte{'g', 't', 'r', 2, 9, 0, 0, 0, 0, 0, 0, 0, 0, 0}
	sum := codec.Sum(want)
	want = append(want, byte(sum>>24), byte(sum>>16), byte(sum>>8), byte(sum))
	empty := api.Bundle{Table: api.Table{Rows: []api.Row{}}, Cert: api.Cert{Nullable: []bool{}, PastStates: [][][]int{}}}
	for _, b := range []api.Bundle{{}, empty} {
		if frame, e := bundle.Encode(b); e != api.OK || !bytes.Equal(frame, want) {
			t.Errorf("% x, %v", frame, e)
		}
		heldOfBundle(t, b)
	}
	if b, e, at := bundle.Decode(want); e != api.OK || at != 0 || !isNothing(b) {
		t.Error(b, e, at)
	}
}

// P17.1, P17.2: the form itself, number by number.
func TestByHand(t *testing.T) {
	want, begin := sealed(someBody())
	if frame, e := bundle.Encode(some()); e != api.OK || !bytes.Equal(frame, want) {
		t.Errorf("% x, %v, want % x", frame, e, want)
	}
	if n, e := bundle.Size(some()); e != api.OK || n != begin+len(someBody())+4 {
		t.Error("Size:", n, e)
	}
	if b, e, at := bundle.Decode(want); e != api.OK || at != 0 || !same(b, some()) {
		t.Error(b, e, at)
	}
}

// P17.1: rows without actions and gotos are rows all the same.
func TestBareRows(t *testing.T) {
	b := api.Bundle{Table: api.Table{Rows: []api.Row{{Default: -1}, {Default: 0, Acts: []api.Action{}, Gotos: []int{}}, {Default: 130}}}}
	want, _ := sealed([]byte{3, 0, 0, 0, 1, 0x83, 0x01, 0, 0, 0, 0, 0, 0})
	if frame, e := bundle.Encode(b); e != api.OK || !bytes.Equal(frame, want) {
		t.Errorf("% x, %v", frame, e)
	}
	heldOfBundle(t, b)
}

// change is one of a bundle.
type change func(*api.Bundle)

// places are the numbers of some, one of each sort and place; with the least that may stand there.
func places() []struct {
	least int
	of    func(*api.Bundle) *int
} {
	return []struct {
		least int
		of    func(*api.Bundle) *int
	}{
		{-1, func(b *api.Bundle) *int { return &b.Table.Rows[0].Default }},
		{-1, func(b *api.Bundle) *int { return &b.Table.Rows[1].Default }},
		{0, func(b *api.Bundle) *int { return &b.Table.Rows[0].Acts[0].Arg }}, // a shift's
		{0, func(b *api.Bundle) *int { return &b.Table.Rows[0].Acts[2].Arg }}, // a reduction's
		{-1, func(b *api.Bundle) *int { return &b.Table.Rows[0].Gotos[0] }},
		{-1, func(b *api.Bundle) *int { return &b.Table.Rows[1].Gotos[1] }},
		{0, func(b *api.Bundle) *int { return &b.Cert.First[0][0] }},
		{0, func(b *api.Bundle) *int { return &b.Cert.First[0][1] }},
		{-1, func(b *api.Bundle) *int { return &b.Cert.Items[0][0].Prod }},
		{0, func(b *api.Bundle) *int { return &b.Cert.Items[0][1].Dot }},
		{0, func(b *api.Bundle) *int { return &b.Cert.Items[0][0].Look[0] }},
		{0, func(b *api.Bundle) *int { return &b.Cert.Incoming[1].N }},    // a nonterminal's
		{0, func(b *api.Bundle) *int { return &b.Cert.PastSyms[1][0].N }}, // a terminal's
		{0, func(b *api.Bundle) *int { return &b.Cert.PastSyms[1][3].N }},
		{0, func(b *api.Bundle) *int { return &b.Cert.PastStates[1][0][0] }},
		{0, func(b *api.Bundle) *int { return &b.Cert.PastStates[1][2][1] }},
	}
}

// P17.1: each number, in its range, at its edges, beyond them.
func TestRanges(t *testing.T) {
	for n, p := range places() {
		for _, x := range []int{math.MinInt, math.MinInt + 1, -1 << 62, -great - 1, -great, -3, -2, -1, 0, 1, 127, 128, great - 1, great, great + 1, great + 2, 2 * great, 1 << 32, 1<<62 - 1, 1 << 62, 1<<63 - 2, math.MaxInt} {
			b := some()
			*p.of(&b) = x
			want := api.ErrBundle
			if x >= p.least && x <= great {
				want = api.OK
			}
			if e := heldOfBundle(t, b); e != want {
				t.Errorf("place %d: %d: %v, want %v", n, x, e, want)
			}
		}
	}
}

// P17.1: kinds, and what an error, an acceptance and no symbol may not carry.
func TestKinds(t *testing.T) {
	for kind := -3; kind <= 7; kind++ {
		for _, arg := range []int{-1, 0, 1, great, great + 1} {
			act := api.Action{Kind: api.ActKind(kind), Arg: arg}
			fine := arg >= 0 && arg <= great
			for _, at := range []func(*api.Bundle) *api.Action{
				func(b *api.Bundle) *api.Action { return &b.Table.Rows[0].Acts[0] },
				func(b *api.Bundle) *api.Action { return &b.Table.Rows[1].Acts[2] },
			} {
				b := some()
				*at(&b) = act
				may := (kind == 1 || kind == 2) && fine || (kind == 0 || kind == 3) && arg == 0
				if e := heldOfBundle(t, b); (e == api.OK) != may {
					t.Error(act, e)
				}
			}
			s := api.Sym{Kind: api.SymKind(kind), N: arg}
			for _, at := range []func(*api.Bundle) *api.Sym{
				func(b *api.Bundle) *api.Sym { return &b.Cert.Incoming[0] },
				func(b *api.Bundle) *api.Sym { return &b.Cert.PastSyms[1][1] },
			} {
				b := some()
				*at(&b) = s
				may := (kind == 1 || kind == 2) && fine || kind == 0 && arg == 0
				if e := heldOfBundle(t, b); (e == api.OK) != may {
					t.Error(s, e)
				}
			}
		}
	}
}

// P17.1: example 2, and what else rows may differ in.
func TestUnlikeRows(t *testing.T) {
	for n, do := range []change{
		func(b *api.Bundle) { b.Table.Rows[1].Gotos = nil },
		func(b *api.Bundle) { b.Table.Rows[1].Gotos = b.Table.Rows[1].Gotos[:1] },
		func(b *api.Bundle) { b.Table.Rows[1].Gotos = append(b.Table.Rows[1].Gotos, 1) },
		func(b *api.Bundle) { b.Table.Rows[0].Gotos = nil },
		func(b *api.Bundle) { b.Table.Rows[1].Acts = nil },
		func(b *api.Bundle) { b.Table.Rows[1].Acts = b.Table.Rows[1].Acts[:2] },
		func(b *api.Bundle) { b.Table.Rows[1].Acts = make([]api.Action, 4) },
		func(b *api.Bundle) { b.Table.Rows[0].Acts = nil },
		func(b *api.Bundle) { b.Table.Rows = append(b.Table.Rows, api.Row{}) },
		func(b *api.Bundle) { b.Table.Rows = append([]api.Row{{}}, b.Table.Rows...) },
		// As many numbers, but not as many of each.
		func(b *api.Bundle) {
			b.Table.Rows[1].Acts, b.Table.Rows[1].Gotos = make([]api.Action, 2), []int{0, 0, 0}
		},
	} {
		b := some()
		do(&b)
		if e := heldOfBundle(t, b); e != api.ErrBundle {
			t.Error(n, e)
		}
	}
}

// P17.1, P17.3: bundles of all sorts, there and back.
func TestAnyBundles(t *testing.T) {
	m := maker{Rand: rand.New(rand.NewSource(1701))}
	for range 5000 {
		if e := heldOfBundle(t, m.bundle()); e != api.OK {
			t.Fatal(e)
		}
	}
	m.strange = true
	answers := map[api.Errno]int{}
	for range 20000 {
		answers[heldOfBundle(t, m.bundle())]++
	}
	oftenAnswered(t, answers, 2000, api.OK, api.ErrBundle)
}

// ofSize is a bundle with a body of that many bytes: the last list's numbers have two bytes each, but for one.
func ofSize(size int) api.Bundle {
	head := 8 + 2 // eight numbers, and how many states and lists there are; then a count of four bytes
	left := size - head - 4
	n := left / 2
	l := slices.Repeat([]int{200}, n)
	if left%2 == 1 {
		l[n/2] = 20000
	}
	return api.Bundle{Cert: api.Cert{PastStates: [][][]int{{l}}}}
}

// P17.1, P17.2: a body of MaxBytes bytes may be, one more is too long; but what may not be goes ahead, wherever it stands.
func TestLong(t *testing.T) {
	for size := api.MaxBytes - 1; size <= api.MaxBytes+2; size++ {
		b := ofSize(size)
		want := api.OK
		if size > api.MaxBytes {
			want = api.ErrLong
		}
		if e := heldOfBundle(t, b); e != want {
			t.Error(size, e)
		}
		if n, e := bundle.Size(b); e != want || e == api.OK && n != size+12 {
			t.Error("Size:", size, n, e)
		}
		ahead, behind := b, b
		ahead.Table.Rows = []api.Row{{Default: -2}}
		behind.Cert.PastStates = append(slices.Clone(b.Cert.PastStates), [][]int{{-1}})
		for _, wrong := range []api.Bundle{ahead, behind} {
			if frame, e := bundle.Encode(wrong); e != api.ErrBundle || frame != nil {
				t.Error("a fault beside it:", size, e)
			}
			if n, e := bundle.Size(wrong); e != api.ErrBundle || n != 0 {
				t.Error("Size, a fault beside it:", size, n, e)
			}
		}
	}
}

// allocated is how many bytes of memory were asked for meanwhile.
func allocated(do func()) uint64 {
	var before, behind runtime.MemStats
	runtime.ReadMemStats(&before)
	do()
	runtime.ReadMemStats(&behind)
	return behind.TotalAlloc - before.TotalAlloc
}

// P17.1: a bundle whose lists stand in very many places is too long, or may not be, and nobody asks for the memory of its code.
func TestManyPlaces(t *testing.T) {
	numbers := make([]int, 4096)
	b := api.Bundle{}
	for range 4096 {
		b.Cert.PastStates = append(b.Cert.PastStates, [][]int{numbers, numbers, numbers, numbers})
	}
	check := func(want api.Errno) {
		t.Helper()
		var e, f api.Errno
		if n := allocated(func() { _, e = bundle.Encode(b) }); e != want || n > 1<<27 {
			t.Error("Encode:", e, n)
		}
		if n := allocated(func() { _, f = bundle.Size(b) }); f != want || n > 1<<27 {
			t.Error("Size:", f, n)
		}
	}
	check(api.ErrLong)
	row := api.Row{Acts: make([]api.Action, 1<<14), Gotos: make([]int, 1<<14)}
	b = api.Bundle{Table: api.Table{Rows: slices.Repeat([]api.Row{row}, 2048)}}
	check(api.ErrLong)
	b.Table.Rows[2047].Gotos = make([]int, 3)
	check(api.ErrBundle)
}

// P17.2: each number of a body, its bound, and what stands where.
func TestBodiesByHand(t *testing.T) {
	const g = great
	for n, c := range []struct {
		body []uint64
		e    api.Errno
		at   int // which of the numbers, if there is an error
	}{
		{[]uint64{g + 1, 0, 0}, api.ErrRange, 0},
		{[]uint64{g, 0, 0}, api.ErrShort, 2},
		{[]uint64{0, g + 1, 0}, api.ErrRange, 1},
		{[]uint64{0, g, 0, 0, 0, 0, 0, 0, 0}, api.ErrShort, 2},
		{[]uint64{0, 0, g + 1}, api.ErrRange, 2},
		{[]uint64{0, 0, g}, api.ErrShort, 2},
		{[]uint64{g, g, g, 0, 0, 0}, api.ErrShort, 2},
		{[]uint64{0, 1, 0, 0, 0, 0, 0, 0, 0}, api.ErrShort, 2},
		{[]uint64{0, 0, 1, 0, 0, 0, 0, 0, 0}, api.ErrShort, 2},
		{[]uint64{0, 1, g + 1}, api.ErrRange, 2}, // that it is out of range is seen when it is read
		{[]uint64{0, 1}, api.ErrShort, 2},
		{[]uint64{g, g}, api.ErrShort, 2},
		{[]uint64{g}, api.ErrShort, 1},
		{[]uint64{g, g + 1, g + 1}, api.ErrRange, 1},
		{[]uint64{2, 1, 2, 0, 0, 0, 0, 0}, api.ErrShort, 2}, // 8 numbers of rows, 5 are left
		{[]uint64{2, 1, 2, 0, 0, 0, 0, 0, 0, 0}, api.ErrShort, 2},
		{[]uint64{2, 1, 2, 0, 0, 0, 0, 0, 0, 0, 0}, api.ErrShort, 11}, // the rows are there
		{[]uint64{2, 1, 2, 0, 0, 0, 0, 0, 0, 0, 0, 0, 0, 0, 0, 0, 0}, api.OK, 0},
		{[]uint64{1, 0, 0, g + 1, 0, 0, 0, 0, 0, 0}, api.OK, 0},
		{[]uint64{1, 0, 0, g + 2, 0, 0, 0, 0, 0, 0}, api.ErrRange, 3},
		{[]uint64{1, 1, 0, 0, 2*g + 3, 0, 0, 0, 0, 0, 0}, api.OK, 0},
		{[]uint64{1, 1, 0, 0, 2*g + 2, 0, 0, 0, 0, 0, 0}, api.OK, 0},
		{[]uint64{1, 1, 0, 0, 2*g + 4, 0, 0, 0, 0, 0, 0}, api.ErrRange, 4},
		{[]uint64{1, 0, 1, 0, g + 1, 0, 0, 0, 0, 0, 0}, api.OK, 0},
		{[]uint64{1, 0, 1, 0, g + 2, 0, 0, 0, 0, 0, 0}, api.ErrRange, 4},
		// nullable
		{[]uint64{0, 0, 0, g + 1}, api.ErrRange, 3},
		{[]uint64{0, 0, 0, g}, api.ErrShort, 3},
		{[]uint64{0, 0, 0, 2, 0}, api.ErrShort, 3},
		{[]uint64{0, 0, 0, 1, 2, 0, 0, 0, 0, 0}, api.ErrRange, 4},
		{[]uint64{0, 0, 0, 2, 1, 0, 0, 0, 0, 0, 0}, api.OK, 0},
		// first
		{[]uint64{0, 0, 0, 0, g + 1}, api.ErrRange, 4},
		{[]uint64{0, 0, 0, 0, 1, g + 1}, api.ErrRange, 5},
		{[]uint64{0, 0, 0, 0, 1, 2, 0}, api.ErrShort, 5},
		{[]uint64{0, 0, 0, 0, 1, 1, g + 1, 0, 0, 0, 0}, api.ErrRange, 6},
		{[]uint64{0, 0, 0, 0, 1, 1, g, 0, 0, 0, 0}, api.OK, 0},
		// items
		{[]uint64{0, 0, 0, 0, 0, g + 1}, api.ErrRange, 5},
		{[]uint64{0, 0, 0, 0, 0, 1, g + 1}, api.ErrRange, 6},
		{[]uint64{0, 0, 0, 0, 0, 1, 3, 0, 0, 0, 0, 0}, api.ErrShort, 12}, // a count asks for a byte each, no more
		{[]uint64{0, 0, 0, 0, 0, 1, 3, 0}, api.ErrShort, 6},
		{[]uint64{0, 0, 0, 0, 0, 1, 1, g + 2, 0, 0, 0, 0, 0}, api.ErrRange, 7},
		{[]uint64{0, 0, 0, 0, 0, 1, 1, g + 1, 0, 0, 0, 0, 0}, api.OK, 0},
		{[]uint64{0, 0, 0, 0, 0, 1, 1, 0, g + 1, 0, 0, 0, 0}, api.ErrRange, 8},
		{[]uint64{0, 0, 0, 0, 0, 1, 1, 0, g, 0, 0, 0, 0}, api.OK, 0},
		{[]uint64{0, 0, 0, 0, 0, 1, 1, 0, 0, g + 1}, api.ErrRange, 9},
		{[]uint64{0, 0, 0, 0, 0, 1, 1, 0, 0, 1, g + 1, 0, 0, 0}, api.ErrRange, 10},
		{[]uint64{0, 0, 0, 0, 0, 1, 1, 0, 0, 1, g, 0, 0, 0}, api.OK, 0},
		// incoming
		{[]uint64{0, 0, 0, 0, 0, 0, g + 1}, api.ErrRange, 6},
		{[]uint64{0, 0, 0, 0, 0, 0, 1, 2*g + 3, 0, 0}, api.ErrRange, 7},
		{[]uint64{0, 0, 0, 0, 0, 0, 1, 2*g + 2, 0, 0}, api.OK, 0},
		{[]uint64{0, 0, 0, 0, 0, 0, 1, 2*g + 1, 0, 0}, api.OK, 0},
		// past symbols
		{[]uint64{0, 0, 0, 0, 0, 0, 0, g + 1}, api.ErrRange, 7},
		{[]uint64{0, 0, 0, 0, 0, 0, 0, 1, g + 1}, api.ErrRange, 8},
		{[]uint64{0, 0, 0, 0, 0, 0, 0, 1, 1, 2*g + 3, 0}, api.ErrRange, 9},
		{[]uint64{0, 0, 0, 0, 0, 0, 0, 1, 1, 2*g + 2, 0}, api.OK, 0},
		// past states
		{[]uint64{0, 0, 0, 0, 0, 0, 0, 0}, api.ErrShort, 8},
		{[]uint64{0, 0, 0, 0, 0, 0, 0, 0, g + 1}, api.ErrRange, 8},
		{[]uint64{0, 0, 0, 0, 0, 0, 0, 0, 1, g + 1}, api.ErrRange, 9},
		{[]uint64{0, 0, 0, 0, 0, 0, 0, 0, 1, 1, g + 1}, api.ErrRange, 10},
		{[]uint64{0, 0, 0, 0, 0, 0, 0, 0, 1, 1, 1, g + 1}, api.ErrRange, 11},
		{[]uint64{0, 0, 0, 0, 0, 0, 0, 0, 1, 1, 1, g}, api.OK, 0},
		{[]uint64{0, 0, 0, 0, 0, 0, 0, 0, 1, 1, 2, g}, api.ErrShort, 12}, // g has five bytes, so two might be there
		// behind it
		{[]uint64{0, 0, 0, 0, 0, 0, 0, 0, 0, 0}, api.ErrTail, 9},
		{[]uint64{0, 0, 0, 0, 0, 0, 0, 0, 0, math.MaxUint64}, api.ErrTail, 9},
		{[]uint64{math.MaxUint64}, api.ErrRange, 0},
		{nil, api.ErrShort, 0},
	} {
		frame, begin := sealed(form(c.body...))
		at := 0
		if c.e != api.OK {
			at = begin + len(form(c.body[:c.at]...))
		}
		b, e, place := bundle.Decode(frame)
		if e != c.e || place != at || e != api.OK && !isNothing(b) {
			t.Errorf("%d: %v: %v, %v, %d, want %v, %d", n, c.body, b, e, place, c.e, at)
		}
		heldOfBody(t, form(c.body...))
	}
}

// P17.2: numbers that are not in their form, wherever they stand.
func TestWrongForms(t *testing.T) {
	body := someBody()
	for at := range body {
		if body[max(at, 1)-1] >= 128 {
			continue
		}
		for _, wrong := range [][]byte{{0x80, 0}, {0xff, 0x80, 0}, bytes.Repeat([]byte{0xff}, 10), append(bytes.Repeat([]byte{0x80}, 9), 2)} {
			turned := slices.Concat(body[:at], wrong, body[at:])
			frame, begin := sealed(turned)
			if b, e, place := bundle.Decode(frame); e != api.ErrForm || place != begin+at || !isNothing(b) {
				t.Errorf("% x: %v, %v, %d", turned, b, e, place)
			}
		}
	}
	if e := heldOfBody(t, []byte{0, 1, 0x80, 0}); e != api.ErrForm {
		t.Error("the number of gotos:", e)
	}
	if e := heldOfBody(t, []byte{9, 0x80, 0, 9}); e != api.ErrForm {
		t.Error("the number of actions:", e)
	}
}

// P17.2: all cuts of a body, and all that one byte more, less or another makes of it.
func TestTurnedBytes(t *testing.T) {
	answers := map[api.Errno]int{}
	body := someBody()
	for at := range body {
		if e := heldOfBody(t, body[:at]); e != api.ErrShort {
			t.Error("cut:", at, e)
		}
		answers[heldOfBody(t, slices.Delete(slices.Clone(body), at, at+1))]++
		for c := range 256 {
			turned := slices.Clone(body)
			turned[at] = byte(c)
			answers[heldOfBody(t, turned)]++
			answers[heldOfBody(t, slices.Insert(slices.Clone(body), at, byte(c)))]++
		}
	}
	oftenAnswered(t, answers, 100, api.OK, api.ErrShort, api.ErrForm, api.ErrRange, api.ErrTail)
}

// P17.2, P17.3: every body of at most eleven of some bytes.
func TestSmallBodies(t *testing.T) {
	answers := map[api.Errno]int{}
	for _, some := range [][]byte{{0, 1, 2}, {0, 1, 0x80}} {
		bodies := [][]byte{nil}
		for range 12 {
			var next [][]byte
			for _, body := range bodies {
				e := heldOfBody(t, body)
				answers[e]++
				if e == api.ErrTail || e == api.ErrForm { // which more bytes do not mend
					continue
				}
				for _, c := range some {
					next = append(next, append(bytes.Clone(body), c))
				}
			}
			bodies = next
		}
	}
	oftenAnswered(t, answers, 50, api.OK, api.ErrShort, api.ErrForm, api.ErrRange, api.ErrTail)
}

// P17.2, P17.3: bodies of bundles of all sorts, with bytes turned, in and out.
func TestTurnedBodies(t *testing.T) {
	m := maker{Rand: rand.New(rand.NewSource(1703))}
	answers := map[api.Errno]int{}
	for range 20000 {
		numbers, _ := modelNumbers(m.bundle())
		body := form(numbers...)
		for range 1 + m.Intn(3) {
			at := m.Intn(len(body) + 1)
			switch c := byte(m.Intn(256) & m.Intn(256)); {
			case m.Intn(3) == 0:
				body = slices.Insert(body, at, c)
			case at < len(body) && m.Intn(3) == 0:
				body = slices.Delete(body, at, at+1)
			case at < len(body):
				body[at] = c
			}
		}
		answers[heldOfBody(t, body)]++
	}
	oftenAnswered(t, answers, 100, api.OK, api.ErrShort, api.ErrForm, api.ErrRange, api.ErrTail)
}

// P17.2: what codec.Open refuses, with its place: all of a frame's cuts and turned bytes.
func TestWrongFrames(t *testing.T) {
	frame := must(bundle.Encode(some()))
	for at := range frame {
		if b, e, place := bundle.Decode(frame[:at]); e != api.ErrShort || place != at || !isNothing(b) {
			t.Error("cut:", at, b, e, place)
		}
		turned := bytes.Clone(frame)
		turned[at] ^= 0x40
		_, want, wantAt := codec.Open(2, turned)
		if b, e, place := bundle.Decode(turned); e == api.OK || e != want || place != wantAt || !isNothing(b) {
			t.Error("turned:", at, b, e, place)
		}
	}
	other := must(codec.Seal(1, someBody()))
	for _, c := range []struct {
		b  []byte
		e  api.Errno
		at int
	}{
		{nil, api.ErrShort, 0},
		{[]byte("gtx"), api.ErrMagic, 2},
		{other, api.ErrMagic, 3},
		{[]byte("gtr\x02\x80\x00"), api.ErrForm, 4},
		{[]byte("gtr\x02\x81\x80\x80\x08"), api.ErrLong, 4},
		{[]byte("gtr\x02\x80\x80\x80\x08"), api.ErrShort, 8},
		{append(bytes.Clone(frame), 0), api.ErrTail, len(frame)},
	} {
		if b, e, at := bundle.Decode(c.b); e != c.e || at != c.at || !isNothing(b) {
			t.Errorf("% x: %v, %v, %d, want %v, %d", c.b, b, e, at, c.e, c.at)
		}
	}
}

// P17.2: places are counted in b, behind a length of one byte, two, three or four.
func TestPlacesInFrames(t *testing.T) {
	for _, size := range []int{20, 127, 128, 16383, 16384, 1<<21 - 1, 1 << 21} {
		body := make([]byte, size)
		frame, begin := sealed(body)
		if b, e, at := bundle.Decode(frame); e != api.ErrTail || at != begin+9 || !isNothing(b) {
			t.Error(size, b, e, at)
		}
		body[2] = 1
		frame, begin = sealed(body)
		if b, e, at := bundle.Decode(frame); e != api.ErrShort || at != begin+2 || !isNothing(b) {
			t.Error(size, b, e, at)
		}
	}
}

// FuzzDecode: P17.2 and P17.3 of any body, and of any bytes.
func FuzzDecode(f *testing.F) {
	f.Add(someBody())
	f.Add(make([]byte, 9))
	f.Add([]byte{0, 1, 0x80, 0})
	f.Fuzz(func(t *testing.T, body []byte) {
		if len(body) > 1<<16 {
			return
		}
		heldOfBody(t, body)
		if b, e, at := bundle.Decode(body); e != api.OK && (!isNothing(b) || at < 0 || at > len(body)) {
			t.Fatal(b, e, at)
		}
	})
}
