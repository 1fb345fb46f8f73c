package compress_test

import (
	"bytes"
	"math/rand"
	"runtime"
	"slices"
	"testing"

	"gantry/api"
	"gantry/compress"
)

// allocated is how many bytes of memory were asked for meanwhile.
func allocated(do func()) uint64 {
	var before, behind runtime.MemStats
	runtime.ReadMemStats(&before)
	do()
	runtime.ReadMemStats(&behind)
	return behind.TotalAlloc - before.TotalAlloc
}

// heldOfFirstFit holds that the pieces of a table were laid in order, each at the least base, as far as a model that goes base by base can tell.
func heldOfFirstFit(t *testing.T, y api.Table, p api.Packed) {
	t.Helper()
	taken := make([]bool, len(p.Owner)+len(y.Rows)+200)
	type piece struct {
		owner   int
		offsets []int
	}
	var pieces []piece
	for owner := range 2 * len(y.Rows) {
		x := piece{owner: owner}
		for k := range modelEntries(y, owner) {
			x.offsets = append(x.offsets, k)
		}
		pieces = append(pieces, x)
	}
	slices.SortStableFunc(pieces, func(a, b piece) int { return len(b.offsets) - len(a.offsets) })
	for _, x := range pieces {
		base := 0
		fits := func() bool {
			return !slices.ContainsFunc(x.offsets, func(k int) bool { return taken[base+k] })
		}
		for !fits() {
			base++
		}
		for _, k := range x.offsets {
			taken[base+k] = true
		}
		if got := [][]int{p.ActBase, p.GotoBase}[x.owner%2][x.owner/2]; got != base {
			t.Fatal("owner", x.owner, "at", got, "want", base)
		}
	}
	for place, owner := range p.Owner {
		if taken[place] != (owner != -1) {
			t.Fatal("place", place, owner)
		}
	}
	if slices.Contains(taken[len(p.Owner):], true) {
		t.Fatal("too short a list")
	}
}

// P22.1, P22.5 to P22.7: the greatest tables that there are, full, half full, nearly empty, empty.
func TestGreatest(t *testing.T) {
	g := sized(64, 64, 256)
	r := rand.New(rand.NewSource(2211))
	for _, of := range []int{0, 1, 20, 64, 110, 128} { // of 128 entries so many
		var y api.Table
		for range api.MaxStates {
			row := looks(make([]api.Action, 65), slices.Repeat([]int{-1}, 64)...)
			for k := range row.Acts {
				if r.Intn(128) < of {
					row.Acts[k] = anyAction(r, g, api.MaxStates, 0)
				}
			}
			for n := range row.Gotos {
				if r.Intn(128) < of {
					row.Gotos[n] = r.Intn(api.MaxStates)
				}
			}
			y.Rows = append(y.Rows, row)
		}
		p := heldOfLaws(t, g, y)
		if of == 128 && len(p.Owner) != 2048*129 || of == 0 && len(p.Owner) != 0 {
			t.Error(of, len(p.Owner))
		}
		if of == 1 || of == 110 || of == 128 {
			heldOfFirstFit(t, y, p)
		}
	}
}

// P22.1: many tables of rows at whose least bases words of bits begin and end.
func TestFirstFit(t *testing.T) {
	r := rand.New(rand.NewSource(2212))
	for range 40 {
		g := anyGrammar(r, 64, 64)
		y := anyTable(r, g, 1+r.Intn(150))
		p := heldOfLaws(t, g, y)
		heldOfFirstFit(t, y, p)
	}
}

// P22.1: rows that fit nowhere into one another, since any two numbers up to 64 apart are so far apart as two of their entries: each begins where the last one ends.
func TestNowhere(t *testing.T) {
	g := sized(64, 1, 1)
	row := looks(make([]api.Action, 65), -1)
	for k := range row.Acts {
		if k < 8 || k%8 == 0 {
			row.Acts[k] = to(0)
		}
	}
	y := rows(slices.Repeat([]api.Row{row}, api.MaxStates)...)
	p := heldOfLaws(t, g, y)
	for r, base := range p.ActBase {
		if base != 65*r {
			t.Fatal(r, base)
		}
	}
	if len(p.Owner) != 65*api.MaxStates {
		t.Error(len(p.Owner))
	}
}

// P22.2, P22.4: as many rows and places as there may be, and one more; bases at their bound.
func TestBounds(t *testing.T) {
	const places = 1 << 20
	p := api.Packed{Terms: 64, Nons: 64}
	for range 2048 {
		p.Default = append(p.Default, -1)
		p.ActBase = append(p.ActBase, 1<<20)
		p.GotoBase = append(p.GotoBase, places-64)
	}
	p.Owner, p.Value = slices.Repeat([]int{-1}, places), make([]int, places)
	p.Owner[places-1], p.Value[places-1] = 4095, 2047
	p.ActBase[7] = places - 65
	p.Owner[places-2], p.Value[places-2] = 14, 2+2*2047
	p.Owner[places-65], p.Value[places-65] = 14, 3+2*255
	if e, at := compress.Check(p); e != api.OK || at != 0 {
		t.Fatal(e, at)
	}
	if compress.Action(p, 7, 63) != to(2047) || compress.Action(p, 7, 0) != by(255) || compress.Goto(p, 2047, 63) != 2047 {
		t.Error("another answer")
	}
	frame := must(compress.Encode(p))
	if want, _ := modelEncode(p); !bytes.Equal(frame, want) {
		t.Error("Encode")
	}
	if q, e, at := compress.Decode(frame); e != api.OK || at != 0 || !same(q, p) {
		t.Error(e, at)
	}
	more := clone(p)
	more.Owner, more.Value = append(more.Owner, -1), append(more.Value, 0)
	if e, at := compress.Check(more); e != api.ErrPacked || at != 0 {
		t.Error("a place more:", e, at)
	}
	body := form(numbersOf(more)...)
	large, begin := sealed(body)
	if q, e, at := compress.Decode(large); e != api.ErrPacked || at != begin || !isNone(q) {
		t.Error("a place more:", e, at)
	}
	more = clone(p)
	more.Default, more.ActBase, more.GotoBase = append(more.Default, -1), append(more.ActBase, 0), append(more.GotoBase, 0)
	if e, at := compress.Check(more); e != api.ErrPacked || at != 0 {
		t.Error("a row more:", e, at)
	}
	p.Owner[places-1] = 4096
	if e, at := compress.Check(p); e != api.ErrPacked || at != 2048+places-1 {
		t.Error("an owner more:", e, at)
	}
}

// P22.2 to P22.4: entries of the last rows at the end of the longest list.
func TestLongest(t *testing.T) {
	const places = 1 << 20
	p := api.Packed{
		Terms: 64, Nons: 64, Default: slices.Repeat([]int{-1}, 2048),
		ActBase: slices.Repeat([]int{places - 65}, 2048), GotoBase: slices.Repeat([]int{places - 64}, 2048),
		Owner: slices.Repeat([]int{-1}, places), Value: make([]int, places),
	}
	for n := range 64 {
		p.Owner[places-1-n], p.Value[places-1-n] = 4000+n, []int{2 + 2*2047, 2047}[n%2]
	}
	if e := heldOfPackedGreat(t, p); e != api.OK {
		t.Error(e)
	}
	p.Owner[places-1]++
	if e := heldOfPackedGreat(t, p); e != api.ErrPacked {
		t.Error(e)
	}
}

// heldOfPackedGreat is heldOfPacked, for tables of which the model of Unpack would ask too often.
func heldOfPackedGreat(t *testing.T, p api.Packed) api.Errno {
	t.Helper()
	e, at := compress.Check(p)
	if want, wantAt := modelCheck(p); e != want || at != wantAt {
		t.Fatal(e, at, want, wantAt)
	}
	frame, f := compress.Encode(p)
	if want, wantE := modelEncode(p); f != wantE || !bytes.Equal(frame, want) {
		t.Fatal("Encode:", f)
	}
	y, h := compress.Unpack(p)
	if h != e || (e == api.OK) != (len(y.Rows) == len(p.Default)) {
		t.Fatal("Unpack:", h)
	}
	for state, row := range y.Rows {
		for k, x := range row.Acts {
			if x != compress.Action(p, state, k) {
				t.Fatal(state, k, x)
			}
		}
		for n, to := range row.Gotos {
			if to != compress.Goto(p, state, n) {
				t.Fatal(state, n, to)
			}
		}
	}
	return e
}

// G5: bodies that are as many things as they can be, or say that they are, make nobody ask for more memory than a fixed multiple of the bytes.
func TestMemoryAskedFor(t *testing.T) {
	const size = 1 << 20
	fill := func(c byte, head ...int) []byte {
		b := form(head...)
		return append(b, bytes.Repeat([]byte{c}, size-len(b))...)
	}
	left := size - 64
	for n, body := range [][]byte{
		fill(0),
		fill(0, 1, 1, left/3),
		fill(1, 1, 1, left/3),
		fill(0xff, 1, 1, left/3),
		fill(0, 1, 1, 1<<30),
		fill(0, 1, 1, left),
		fill(0, 1, 1, 1, 0, 0, 0, left),
		fill(1, 1, 1, 1, 0, 0, 0, left/2),
		fill(0xff, 1, 1, 1, 0, 0, 0, left),
		fill(0, 1, 1, 1, 0, 0, 0, 1<<30),
		fill(0, 0, 0, 0, left),
	} {
		frame, _ := sealed(body)
		if asked := allocated(func() { compress.Decode(frame) }); asked > 100*uint64(len(frame)) {
			t.Errorf("%d: asked for %d bytes", n, asked)
		}
	}
	for _, head := range [][]int{{1, 1, 1 << 20}, {1, 1, 1, 0, 0, 0, 1 << 20}} {
		small, _ := sealed(form(head...))
		if asked := allocated(func() { compress.Decode(small) }); asked > 4096 {
			t.Error("a few bytes asked for", asked)
		}
	}
}
