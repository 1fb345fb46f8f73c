package compress_test

import (
	"bytes"
	"math"
	"math/rand"
	"slices"
	"testing"

	"gantry/api"
	"gantry/codec"
	"gantry/compress"
	"gantry/table"
)

// nest is S → ( S ), S → x.
func nest() api.Grammar {
	return api.Grammar{Terms: []string{"'('", "')'", "x"}, Nons: []string{"S"}, Prods: []api.Prod{prod(0, term(0), non(0), term(1)), prod(0, term(2))}}
}

// nestTable is the table of nest, with Defaults.
func nestTable() api.Table {
	return rows(
		looks(acts(to(1), fault, to(2), fault), 3),
		looks(acts(to(1), fault, to(2), fault), 4),
		blind(1, 4, -1),
		looks(acts(fault, fault, fault, accept), -1),
		looks(acts(fault, to(5), fault, fault), -1),
		blind(0, 4, -1),
	)
}

// nestPacked is it, laid by hand: the actions of 0, those of 1 beside them, and then what has one entry: the goto of 0, that of 1, the actions of 3 and of 4.
func nestPacked() api.Packed {
	return api.Packed{
		Terms: 3, Nons: 1, Default: []int{-1, -1, 1, -1, -1, 0},
		ActBase: []int{0, 1, 0, 3, 6, 0}, GotoBase: []int{4, 5, 0, 0, 0, 0},
		Owner: []int{0, 2, 0, 2, 1, 3, 6, 8},
		Value: []int{4, 4, 6, 6, 3, 4, 1, 12},
	}
}

// some has something of all: each kind of value, a Default, a place where nothing stands, and one where the list ends.
func some() api.Packed {
	return api.Packed{
		Terms: 2, Nons: 2, Default: []int{-1, 7, -1}, ActBase: []int{1, 0, 5}, GotoBase: []int{6, 4, 0},
		Owner: []int{-1, 0, 0, 0, 3, -1, 4, 1, -1},
		Value: []int{0, 1, 4, 9, 2, 0, 513, 0, 0},
	}
}

// heldOfTable packs a table and answers what Pack does, held against the model, as Ratio is.
func heldOfTable(t *testing.T, g api.Grammar, y api.Table) (api.Packed, api.Errno) {
	t.Helper()
	p, e := compress.Pack(g, y)
	want, wantE := modelPack(g, y)
	if e != wantE || !same(p, want) {
		t.Fatal("Pack:", g, y, p, e, want, wantE)
	}
	entries, places, f := compress.Ratio(g, y)
	count := len(want.Owner)
	for _, owner := range want.Owner {
		if owner == -1 {
			count--
		}
	}
	if f != wantE || entries != count || places != len(want.Owner) {
		t.Fatal("Ratio:", g, y, entries, places, f)
	}
	return p, e
}

// heldOfPacked asks Check, Unpack and Encode of a packed table that anybody made, and of its code Decode; it answers Check's error.
func heldOfPacked(t *testing.T, p api.Packed) api.Errno {
	t.Helper()
	want, wantAt := modelCheck(p)
	if e, at := compress.Check(p); e != want || at != wantAt {
		t.Fatal("Check:", p, e, at, want, wantAt)
	}
	y, e := compress.Unpack(p)
	if model, _ := modelUnpack(p); e != want || !sameTable(y, model) || e != api.OK && y.Rows != nil {
		t.Fatal("Unpack:", p, y, e, model, want)
	}
	frame, e := compress.Encode(p)
	if model, _ := modelEncode(p); e != want || !bytes.Equal(frame, model) || e != api.OK && frame != nil {
		t.Fatalf("Encode of %v: % x, %v, want % x, %v", p, frame, e, model, want)
	}
	if want != api.OK {
		return want
	}
	if back, e, at := compress.Decode(frame); e != api.OK || at != 0 || !same(back, p) {
		t.Fatal("Decode of Encode:", p, back, e, at)
	}
	return want
}

// asked are the numbers of which a packed table's Action and Goto are asked.
func asked(p api.Packed) []int {
	l := []int{math.MinInt, math.MinInt + 1, -great, -3, -2, -1, great, math.MaxInt - 1, math.MaxInt}
	for n := range 3 + min(64, max(p.Terms, p.Nons, len(p.Default), len(p.ActBase), len(p.GotoBase))) {
		l = append(l, n)
	}
	return l
}

// heldOfAnswers asks Action and Goto of any packed table, of all numbers.
func heldOfAnswers(t *testing.T, p api.Packed) {
	t.Helper()
	l := asked(p)
	for _, state := range l {
		for _, n := range l {
			if x, want := compress.Action(p, state, n), modelAction(p, state, n); x != want {
				t.Fatal("Action:", p, state, n, x, want)
			}
			if to, want := compress.Goto(p, state, n), modelGoto(p, state, n); to != want {
				t.Fatal("Goto:", p, state, n, to, want)
			}
		}
	}
}

// heldOfBody asks Decode of a body's frame, and of what it takes Encode, and answers Decode's error.
func heldOfBody(t *testing.T, body []byte) api.Errno {
	t.Helper()
	frame, begin := sealed(body)
	p, e, at := compress.Decode(frame)
	want, wantE, place := modelDecode(body)
	if wantE != api.OK {
		place += begin
	}
	if e != wantE || at != place || !same(p, want) {
		t.Fatalf("Decode of % x: %v, %v, %d, want %v, %v, %d", body, p, e, at, want, wantE, place)
	}
	if e != api.OK {
		return e
	}
	if again, e := compress.Encode(p); e != api.OK || !bytes.Equal(again, frame) {
		t.Fatalf("Encode of %v: % x, %v, want % x", p, again, e, frame)
	}
	return e
}

// oftenAnswered asks that each of these errors was answered so often.
func oftenAnswered(t *testing.T, answers map[api.Errno]int, least int, all ...api.Errno) {
	t.Helper()
	for _, e := range all {
		if answers[e] < least {
			t.Error("too seldom answered:", e, answers)
		}
	}
}

// P22.1: example 1, piece by piece.
func TestNest(t *testing.T) {
	g, y := nest(), nestTable()
	p, e := heldOfTable(t, g, y)
	if e != api.OK || !same(p, nestPacked()) {
		t.Error(p, e)
	}
	if n, m, e := compress.Ratio(g, y); n != 8 || m != 8 || e != api.OK {
		t.Error("Ratio:", n, m, e)
	}
	if back, e := compress.Unpack(p); e != api.OK || !sameTable(back, y) {
		t.Error("Unpack:", back, e)
	}
	if e, at := compress.Check(p); e != api.OK || at != 0 {
		t.Error("Check:", e, at)
	}
}

// P22.1: values of all kinds; a base is the least one, though that be ahead of pieces that were laid earlier, or among them.
func TestLeastBase(t *testing.T) {
	g := sized(4, 3, 200)
	for n, c := range []struct {
		y api.Table
		p api.Packed
	}{
		{ // nothing at all
			rows(looks(make([]api.Action, 5), -1, -1, -1), blind(199, 5, -1, -1, -1)),
			api.Packed{Default: []int{-1, 199}, ActBase: []int{0, 0}, GotoBase: []int{0, 0}},
		},
		{ // the base is where the piece would begin, not its first entry: what lies ahead of that may be another's
			rows(looks(acts(fault, fault, accept, to(0), by(199)), -1, 0, -1), blind(0, 5, 1, -1, -1)),
			api.Packed{Default: []int{-1, 0}, ActBase: []int{0, 0}, GotoBase: []int{0, 0},
				Owner: []int{3, 1, 0, 0, 0}, Value: []int{1, 0, 1, 2, 401}},
		},
		{ // the least base at which it fits, with gaps on both sides
			rows(looks(acts(by(0), fault, by(1), fault, by(2)), -1, -1, -1), looks(acts(to(0), fault, fault, to(1), fault), -1, 0, 1)),
			api.Packed{Default: []int{-1, -1}, ActBase: []int{0, 3}, GotoBase: []int{0, 6},
				Owner: []int{0, -1, 0, 2, 0, -1, 2, 3, 3}, Value: []int{3, 0, 5, 2, 7, 0, 4, 0, 1}},
		},
		{ // of pieces of as many entries the least owner's first: a row's gotos behind its actions, both ahead of the next row's
			rows(looks(acts(to(0), fault, fault, fault, fault), 1, -1, -1), looks(acts(to(1), fault, fault, fault, fault), 0, -1, -1)),
			api.Packed{Default: []int{-1, -1}, ActBase: []int{0, 2}, GotoBase: []int{1, 3},
				Owner: []int{0, 1, 2, 3}, Value: []int{2, 1, 4, 0}},
		},
		{ // those with more entries first, whoever owns them
			rows(looks(acts(to(0), fault, fault, fault, fault), 1, 1, -1), looks(acts(accept, accept, accept, fault, fault), 0, -1, -1)),
			api.Packed{Default: []int{-1, -1}, ActBase: []int{5, 0}, GotoBase: []int{3, 6},
				Owner: []int{2, 2, 2, 1, 1, 0, 3}, Value: []int{1, 1, 1, 1, 1, 2, 0}},
		},
	} {
		c.p.Terms, c.p.Nons = 4, 3
		p, e := heldOfTable(t, g, c.y)
		if e != api.OK || !same(p, c.p) {
			t.Error(n, p, e)
		}
		if e := heldOfPacked(t, p); e != api.OK {
			t.Error(n, e)
		}
	}
}

// P22.1: table.Shape's errors, beside which there is nothing.
func TestWrongTables(t *testing.T) {
	g := nest()
	set := func(do func(y *api.Table)) api.Table {
		y := nestTable()
		do(&y)
		return y
	}
	for n, c := range []struct {
		g api.Grammar
		y api.Table
		e api.Errno
	}{
		{api.Grammar{}, nestTable(), api.ErrTerms},
		{api.Grammar{Terms: g.Terms}, nestTable(), api.ErrNons},
		{api.Grammar{Terms: g.Terms, Nons: g.Nons}, api.Table{}, api.ErrProds},
		{g, api.Table{}, api.ErrStates},
		{g, rows(slices.Repeat([]api.Row{blind(0, 4, -1)}, 2049)...), api.ErrStates},
		{g, set(func(y *api.Table) { y.Rows[3].Acts = y.Rows[3].Acts[:3] }), api.ErrShape},
		{g, set(func(y *api.Table) { y.Rows[3].Gotos = nil }), api.ErrShape},
		{g, set(func(y *api.Table) { y.Rows[3].Gotos = []int{6} }), api.ErrRange},
		{g, set(func(y *api.Table) { y.Rows[3].Gotos = []int{-2} }), api.ErrRange},
		{g, set(func(y *api.Table) { y.Rows[0].Acts[0] = to(6) }), api.ErrRange},
		{g, set(func(y *api.Table) { y.Rows[0].Acts[0] = to(-1) }), api.ErrRange},
		{g, set(func(y *api.Table) { y.Rows[0].Acts[0] = by(2) }), api.ErrRange},
		{g, set(func(y *api.Table) { y.Rows[0].Acts[0].Kind = 4 }), api.ErrRange},
		{g, set(func(y *api.Table) { y.Rows[3].Acts[3].Arg = 1 }), api.ErrRange},
		{g, set(func(y *api.Table) { y.Rows[2].Default = 2 }), api.ErrRange},
		{g, set(func(y *api.Table) { y.Rows[2].Default = -2 }), api.ErrRange},
		{g, set(func(y *api.Table) { y.Rows[2].Acts[1] = accept }), api.ErrAction},
		{g, set(func(y *api.Table) { y.Rows[0].Default = 0 }), api.ErrAction},
	} {
		if p, e := heldOfTable(t, c.g, c.y); e != c.e || !isNone(p) {
			t.Error(n, p, e)
		}
		if n, m, e := compress.Ratio(c.g, c.y); n != 0 || m != 0 || e != c.e {
			t.Error("Ratio:", n, m, e)
		}
	}
}

// change is one of a packed table.
type change func(p *api.Packed)

// P22.2: each fault, at its edges, with the row or the place that is told.
func TestFaults(t *testing.T) {
	behind := len(some().Default)
	set := func(of func(p *api.Packed) *int, n int) change {
		return func(p *api.Packed) { *of(p) = n }
	}
	cut := func(of func(p *api.Packed) *[]int, n int) change {
		return func(p *api.Packed) { l := of(p); *l = slices.Concat(*l, make([]int, n))[:n] }
	}
	terms, nons := func(p *api.Packed) *int { return &p.Terms }, func(p *api.Packed) *int { return &p.Nons }
	def := func(n int) func(p *api.Packed) *int { return func(p *api.Packed) *int { return &p.Default[n] } }
	act := func(n int) func(p *api.Packed) *int { return func(p *api.Packed) *int { return &p.ActBase[n] } }
	goes := func(n int) func(p *api.Packed) *int { return func(p *api.Packed) *int { return &p.GotoBase[n] } }
	owner := func(n int) func(p *api.Packed) *int { return func(p *api.Packed) *int { return &p.Owner[n] } }
	value := func(n int) func(p *api.Packed) *int { return func(p *api.Packed) *int { return &p.Value[n] } }
	const fine = -1
	for n, c := range []struct {
		do change
		at int // fine, or where the fault is
	}{
		{func(p *api.Packed) {}, fine},
		{set(terms, 0), 0}, {set(terms, -1), 0}, {set(terms, 64), fine}, {set(terms, 65), 0}, {set(terms, math.MaxInt), 0}, {set(terms, math.MinInt), 0},
		{set(nons, 0), 0}, {set(nons, -1), 0}, {set(nons, 64), fine}, {set(nons, 65), 0}, {set(nons, math.MaxInt), 0}, {set(nons, math.MinInt), 0},
		{set(terms, 1), behind + 3}, {set(nons, 1), behind + 7}, // entries at the end of a piece are none any more
		{func(p *api.Packed) { p.Default, p.ActBase, p.GotoBase = nil, nil, nil }, 0},
		{cut(func(p *api.Packed) *[]int { return &p.Default }, 2), 0},
		{cut(func(p *api.Packed) *[]int { return &p.Default }, 4), 0},
		{cut(func(p *api.Packed) *[]int { return &p.ActBase }, 2), 0},
		{cut(func(p *api.Packed) *[]int { return &p.ActBase }, 4), 0},
		{cut(func(p *api.Packed) *[]int { return &p.GotoBase }, 2), 0},
		{cut(func(p *api.Packed) *[]int { return &p.GotoBase }, 4), 0},
		{cut(func(p *api.Packed) *[]int { return &p.Owner }, 8), 0},
		{cut(func(p *api.Packed) *[]int { return &p.Value }, 8), 0},
		{cut(func(p *api.Packed) *[]int { return &p.Owner }, 0), 0},
		{cut(func(p *api.Packed) *[]int { return &p.Value }, 0), 0},
		{func(p *api.Packed) { p.Owner, p.Value = nil, nil }, fine},
		{func(p *api.Packed) { p.Owner, p.Value = p.Owner[:8], p.Value[:8] }, fine},
		{set(def(0), -2), 0}, {set(def(1), -2), 1}, {set(def(1), 0), fine}, {set(def(1), 255), fine}, {set(def(1), 256), 1}, {set(def(2), math.MinInt), 2}, {set(def(1), math.MaxInt), 1},
		{set(act(1), -1), 1}, {set(act(1), 1<<20), fine}, {set(act(1), 1<<20+1), 1}, {set(act(1), math.MaxInt), 1}, {set(act(1), math.MinInt), 1},
		{set(goes(2), -1), 2}, {set(goes(2), 1<<20), fine}, {set(goes(2), 1<<20+1), 2}, {set(goes(2), math.MaxInt), 2}, {set(goes(2), math.MinInt), 2},
		{set(owner(0), -2), behind}, {set(owner(0), math.MinInt), behind}, {set(owner(1), -1), behind + 1}, {set(owner(7), -1), fine},
		{set(value(0), 1), behind}, {set(value(0), -1), behind}, {set(value(8), 3), behind + 8},
		{set(owner(8), 6), behind + 8}, {set(owner(8), math.MaxInt), behind + 8}, {set(owner(8), 5), behind + 8}, {set(owner(5), 3), fine},
		{set(act(0), 0), behind + 3}, {set(act(0), 2), behind + 1}, {set(act(2), 4), fine}, {set(act(2), 6), fine}, {set(act(2), 3), behind + 6}, {set(act(2), 7), behind + 6},
		{set(goes(0), 7), fine}, {set(goes(0), 5), behind + 7}, {set(goes(0), 8), behind + 7}, {set(goes(1), 3), fine}, {set(goes(1), 2), behind + 4}, {set(goes(1), 5), behind + 4},
		{set(value(1), 0), behind + 1}, {set(value(1), -1), behind + 1}, {set(value(1), -2), behind + 1}, {set(value(1), -3), behind + 1}, {set(value(1), math.MinInt), behind + 1},
		{set(value(1), 2), fine}, {set(value(1), 6), fine}, {set(value(1), 8), behind + 1}, {set(value(1), math.MaxInt-1), behind + 1},
		{set(value(1), 3), fine}, {set(value(1), 513), fine}, {set(value(1), 515), behind + 1}, {set(value(1), math.MaxInt), behind + 1},
		{set(value(4), 0), fine}, {set(value(4), 3), behind + 4}, {set(value(4), -1), behind + 4}, {set(value(4), math.MinInt), behind + 4}, {set(value(4), math.MaxInt), behind + 4},
		{set(def(0), 0), behind + 1}, {set(def(2), 5), behind + 6}, // a row with a Default has no actions
		{set(def(1), -1), fine},
	} {
		p := some()
		c.do(&p)
		e, at := heldOfPacked(t, p), max(c.at, 0)
		if (e == api.OK) != (c.at == fine) {
			t.Error(n, p, e)
		}
		if f, place := compress.Check(p); f != e || place != at {
			t.Error(n, p, f, place, at)
		}
		heldOfAnswers(t, p)
	}
}

// P22.2: of two faults the one that is named first, and of one kind the one that stands first.
func TestOrderOfFaults(t *testing.T) {
	p := some()
	p.Owner[8], p.Value[0] = 99, 7
	order := []struct {
		do change
		at int
	}{
		{func(p *api.Packed) {}, 3},
		{func(p *api.Packed) { p.GotoBase[2] = -1 }, 2},
		{func(p *api.Packed) { p.Default[1] = 256 }, 1},
		{func(p *api.Packed) { p.ActBase[0] = -1 }, 0},
		{func(p *api.Packed) { p.ActBase[0], p.Default[1], p.Owner = 1, 7, append(p.Owner, -1) }, 0},
	}
	for n, c := range order {
		c.do(&p)
		heldOfPacked(t, p)
		if e, at := compress.Check(p); e != api.ErrPacked || at != c.at {
			t.Error(n, e, at)
		}
	}
}

// P22.2 to P22.4: nothing, and lists that are nil or empty.
func TestNothing(t *testing.T) {
	if e, at := compress.Check(api.Packed{}); e != api.ErrPacked || at != 0 {
		t.Error("Check:", e, at)
	}
	heldOfPacked(t, api.Packed{})
	heldOfAnswers(t, api.Packed{})
	p := api.Packed{Terms: 1, Nons: 1, Default: []int{-1}, ActBase: []int{0}, GotoBase: []int{0}}
	q := p
	q.Owner, q.Value = []int{}, []int{}
	for _, x := range []api.Packed{p, q} {
		if e := heldOfPacked(t, x); e != api.OK {
			t.Error(e)
		}
		heldOfAnswers(t, x)
	}
}

// P22.3: answers of a packed table that nobody would take.
func TestAnswersOfAny(t *testing.T) {
	p := some()
	for n, c := range []struct {
		do    change
		state int
		look  int
		x     api.Action
		to    int
	}{
		{func(p *api.Packed) {}, 0, 0, accept, -1},
		{func(p *api.Packed) {}, 0, 1, to(1), 0},
		{func(p *api.Packed) {}, 0, 2, by(3), -1},
		{func(p *api.Packed) {}, 0, 3, fault, -1},
		{func(p *api.Packed) {}, 0, -1, fault, -1},
		{func(p *api.Packed) {}, 1, 0, by(7), 2},
		{func(p *api.Packed) {}, 1, 99, by(7), -1},
		{func(p *api.Packed) {}, 1, math.MinInt, by(7), -1},
		{func(p *api.Packed) {}, 3, 0, fault, -1},
		{func(p *api.Packed) {}, -1, 0, fault, -1},
		{func(p *api.Packed) { p.Default = p.Default[:1] }, 1, 0, fault, -1},
		{func(p *api.Packed) { p.ActBase = p.ActBase[:1] }, 1, 0, fault, -1},
		{func(p *api.Packed) { p.GotoBase = p.GotoBase[:1] }, 1, 0, fault, -1},
		{func(p *api.Packed) { p.Default[1] = -9 }, 1, 0, by(-9), 2},
		{func(p *api.Packed) { p.Default[1] = math.MaxInt }, 1, 5, by(math.MaxInt), -1},
		{func(p *api.Packed) { p.Value[2], p.Value[7] = 0, -5 }, 0, 1, fault, -5},
		{func(p *api.Packed) { p.Value[2], p.Value[7] = -2, 999 }, 0, 1, fault, 999},
		{func(p *api.Packed) { p.Value[2] = -3 }, 0, 1, fault, 0},
		{func(p *api.Packed) { p.Value[2] = math.MaxInt }, 0, 1, by(math.MaxInt/2 - 1), 0},
		{func(p *api.Packed) { p.Value[2] = math.MaxInt - 1 }, 0, 1, to(math.MaxInt/2 - 1), 0},
		{func(p *api.Packed) { p.Value[2] = math.MinInt }, 0, 1, fault, 0},
		{func(p *api.Packed) { p.Owner[2], p.Owner[7] = 1, 0 }, 0, 1, fault, -1},
		{func(p *api.Packed) { p.Owner[2], p.Owner[7] = 2, 3 }, 0, 1, fault, -1},
		{func(p *api.Packed) { p.Owner = p.Owner[:2] }, 0, 1, fault, -1},
		{func(p *api.Packed) { p.Value = p.Value[:2] }, 0, 1, fault, -1},
		{func(p *api.Packed) { p.ActBase[0], p.GotoBase[0] = math.MaxInt, math.MaxInt }, 0, 1, fault, -1},
		{func(p *api.Packed) { p.ActBase[0], p.GotoBase[0] = -1, 0 }, 0, 1, fault, -1},
		{func(p *api.Packed) { p.ActBase[0], p.GotoBase[0] = -2, math.MinInt }, 0, 1, fault, -1},
		{func(p *api.Packed) { p.ActBase[0], p.Terms, p.GotoBase[0], p.Nons = -99, 200, -93, 200 }, 0, 100, accept, 0},
		{func(p *api.Packed) {
			p.ActBase[0], p.Terms, p.GotoBase[0], p.Nons = -math.MaxInt+1, math.MaxInt, -math.MaxInt+8, math.MaxInt
		}, 0, math.MaxInt, accept, -1},
		{func(p *api.Packed) { p.Terms, p.Nons = 0, 0 }, 0, 0, accept, -1},
		{func(p *api.Packed) { p.Terms, p.Nons = -1, -1 }, 0, 0, fault, -1},
		{func(p *api.Packed) { p.Terms, p.Nons = math.MinInt, math.MinInt }, 0, 0, fault, -1},
	} {
		q := clone(p)
		c.do(&q)
		if x := compress.Action(q, c.state, c.look); x != c.x {
			t.Error(n, x)
		}
		if to := compress.Goto(q, c.state, c.look); to != c.to {
			t.Error(n, to)
		}
		heldOfPacked(t, q)
		heldOfAnswers(t, q)
	}
}

// P22.4: the form, number by number.
func TestByHand(t *testing.T) {
	body := []byte{
		2, 2, 3, 0, 1, 6, 8, 0, 4, 0, 5, 0,
		9, 0, 1, 1, 1, 4, 1, 9, 4, 2, 0, 5, 0x81, 4, 2, 0, 0,
	}
	want := slices.Concat([]byte{'g', 't', 'r', 4, byte(len(body))}, body)
	sum := codec.Sum(want)
	want = append(want, byte(sum>>24), byte(sum>>16), byte(sum>>8), byte(sum))
	if frame, e := compress.Encode(some()); e != api.OK || !bytes.Equal(frame, want) {
		t.Errorf("% x, %v, want % x", frame, e, want)
	}
	if p, e, at := compress.Decode(want); e != api.OK || at != 0 || !same(p, some()) {
		t.Error(p, e, at)
	}
}

// P22.4: each number of a body, its bound, what stands where, and Check's error at the place where the body begins.
func TestBodiesByHand(t *testing.T) {
	const g = great
	for n, c := range []struct {
		body []int
		e    api.Errno
		at   int // which of the numbers, if there is an error
	}{
		{nil, api.ErrShort, 0},
		{[]int{-1}, api.ErrRange, 0}, // the greatest number
		{[]int{g + 1, 1, 0, 0}, api.ErrRange, 0},
		{[]int{g, 1, 0, 0}, api.ErrPacked, 0},
		{[]int{1}, api.ErrShort, 1},
		{[]int{1, g + 1, 0, 0}, api.ErrRange, 1},
		{[]int{1, g, 0, 0}, api.ErrPacked, 0},
		{[]int{1, 1}, api.ErrShort, 2},
		{[]int{1, 1, g + 1}, api.ErrRange, 2},
		{[]int{1, 1, g}, api.ErrShort, 2},
		{[]int{1, 1, 1, 0, 0}, api.ErrShort, 2},
		{[]int{1, 1, 1, 0, 0, 0}, api.ErrShort, 6},
		{[]int{1, 1, 2, 0, 0, 0, 0}, api.ErrShort, 2},
		{[]int{1, 1, 2, 0, 0, 0, 0, 0, 0}, api.ErrShort, 9},
		{[]int{1, 1, 2, 0, 300, 0, 0, 0, 300}, api.ErrShort, 9},
		{[]int{1, 1, 1, g + 1, 0, 0, 0}, api.ErrRange, 3},
		{[]int{1, 1, 1, g, 0, 0, 0}, api.ErrPacked, 0},
		{[]int{1, 1, 1, 257, 0, 0, 0}, api.ErrPacked, 0},
		{[]int{1, 1, 1, 256, 0, 0, 0}, api.OK, 0},
		{[]int{1, 1, 1, 0, g + 1, 0, 0}, api.ErrRange, 4},
		{[]int{1, 1, 1, 0, g, 0, 0}, api.ErrPacked, 0},
		{[]int{1, 1, 1, 0, 1<<20 + 1, 0, 0}, api.ErrPacked, 0},
		{[]int{1, 1, 1, 0, 1 << 20, 1 << 20, 0}, api.OK, 0},
		{[]int{1, 1, 1, 0, 0, g + 1, 0}, api.ErrRange, 5},
		{[]int{1, 1, 1, 0, 0, g, 0}, api.ErrPacked, 0},
		{[]int{1, 1, 1, 0, 0, 0, g + 1}, api.ErrRange, 6},
		{[]int{1, 1, 1, 0, 0, 0, g}, api.ErrShort, 6},
		{[]int{1, 1, 1, 0, 0, 0, 1}, api.ErrShort, 6},
		{[]int{1, 1, 1, 0, 0, 0, 1, 0}, api.OK, 0},
		{[]int{1, 1, 1, 0, 0, 0, 2, 0}, api.ErrShort, 6},
		{[]int{1, 1, 1, 0, 0, 0, 1, g + 1}, api.ErrRange, 7},
		{[]int{1, 1, 1, 0, 0, 0, 1, g}, api.ErrShort, 8},
		{[]int{1, 1, 1, 0, 0, 0, 1, g, 0}, api.ErrPacked, 0},
		{[]int{1, 1, 1, 0, 0, 0, 1, 1}, api.ErrShort, 8},
		{[]int{1, 1, 1, 0, 0, 0, 1, 1, g + 1}, api.ErrRange, 8},
		{[]int{1, 1, 1, 0, 0, 0, 1, 1, g}, api.ErrPacked, 0},
		{[]int{1, 1, 1, 0, 0, 0, 1, 1, 0}, api.ErrPacked, 0},
		{[]int{1, 1, 1, 0, 0, 0, 1, 1, 1}, api.OK, 0},
		{[]int{1, 1, 1, 0, 0, 0, 1, 2, 0}, api.OK, 0},
		{[]int{1, 1, 1, 0, 0, 0, 1, 2, 1}, api.ErrPacked, 0},
		{[]int{1, 1, 1, 0, 0, 0, 2, 1, 1}, api.ErrShort, 9},
		{[]int{1, 1, 1, 0, 0, 0, 2, 1, 1, 0}, api.OK, 0},
		{[]int{1, 1, 1, 0, 0, 0, 1, 0, 0}, api.ErrTail, 8}, // what stands nowhere has no value
		{[]int{1, 1, 1, 0, 0, 0, 0, 0}, api.ErrTail, 7},
		{[]int{0, 0, 0, 0, -1}, api.ErrTail, 4},
		{[]int{0, 0, 0, 0}, api.ErrPacked, 0},
		{[]int{1, 1, 0, 0}, api.ErrPacked, 0},
		{[]int{0, 1, 1, 0, 0, 0, 0}, api.ErrPacked, 0},
		{[]int{64, 64, 1, 0, 0, 0, 0}, api.OK, 0},
		{[]int{65, 64, 1, 0, 0, 0, 0}, api.ErrPacked, 0},
		{[]int{64, 65, 1, 0, 0, 0, 0}, api.ErrPacked, 0},
	} {
		frame, begin := sealed(form(c.body...))
		at := 0
		if c.e != api.OK {
			at = begin + len(form(c.body[:c.at]...))
		}
		p, e, place := compress.Decode(frame)
		if e != c.e || place != at || e != api.OK && !isNone(p) {
			t.Errorf("%d: %v: %v, %v, %d, want %v, %d", n, c.body, p, e, place, c.e, at)
		}
		heldOfBody(t, form(c.body...))
	}
}

// P22.4: numbers that are not in their form, wherever they stand.
func TestWrongForms(t *testing.T) {
	body := form(numbersOf(some())...)
	for at := range body {
		if body[max(at, 1)-1] >= 128 {
			continue
		}
		for _, wrong := range [][]byte{{0x80, 0}, {0xff, 0x80, 0}, bytes.Repeat([]byte{0xff}, 10), append(bytes.Repeat([]byte{0x80}, 9), 2)} {
			turned := slices.Concat(body[:at], wrong, body[at:])
			frame, begin := sealed(turned)
			if p, e, place := compress.Decode(frame); e != api.ErrForm || place != begin+at || !isNone(p) {
				t.Errorf("% x: %v, %v, %d", turned, p, e, place)
			}
		}
	}
}

// P22.4, P22.7: all cuts of a body, and all that one byte more, less or another makes of it.
func TestTurnedBytes(t *testing.T) {
	answers := map[api.Errno]int{}
	body := form(numbersOf(some())...)
	for at := range body {
		if e := heldOfBody(t, body[:at]); e != api.ErrShort {
			t.Error("cut:", at, e)
		}
		answers[heldOfBody(t, slices.Delete(slices.Clone(body), at, at+1))]++
		for c := range 256 {
			turned := slices.Clone(body)
			turned[at] = byte(c)
			answers[heldOfBody(t, turned)]++
			answers[heldOfBody(t, slices.Insert(slices.Clone(body), at, byte(c)))]++
		}
	}
	oftenAnswered(t, answers, 100, api.OK, api.ErrShort, api.ErrForm, api.ErrTail, api.ErrPacked)
}

// P22.4: what codec.Open refuses, with its place: all of a frame's cuts and turned bytes, and other frames.
func TestWrongFrames(t *testing.T) {
	frame := must(compress.Encode(some()))
	for at := range frame {
		if p, e, place := compress.Decode(frame[:at]); e != api.ErrShort || place != at || !isNone(p) {
			t.Error("cut:", at, p, e, place)
		}
		turned := bytes.Clone(frame)
		turned[at] ^= 0x40
		_, want, wantAt := codec.Open(4, turned)
		if p, e, place := compress.Decode(turned); e == api.OK || e != want || place != wantAt || !isNone(p) {
			t.Error("turned:", at, p, e, place)
		}
	}
	other := must(codec.Seal(2, form(numbersOf(some())...)))
	for _, c := range []struct {
		b  []byte
		e  api.Errno
		at int
	}{
		{nil, api.ErrShort, 0},
		{[]byte("gtx"), api.ErrMagic, 2},
		{other, api.ErrMagic, 3},
		{[]byte("gtr\x04\x80\x00"), api.ErrForm, 4},
		{[]byte("gtr\x04\x81\x80\x80\x08"), api.ErrLong, 4},
		{[]byte("gtr\x04\x80\x80\x80\x08"), api.ErrShort, 8},
		{append(bytes.Clone(frame), 0), api.ErrTail, len(frame)},
	} {
		if p, e, at := compress.Decode(c.b); e != c.e || at != c.at || !isNone(p) {
			t.Errorf("% x: %v, %v, %d, want %v, %d", c.b, p, e, at, c.e, c.at)
		}
	}
}

// P22.4: places are counted in b, behind a length of one byte, two, three or four.
func TestPlacesInFrames(t *testing.T) {
	head := form(1, 1, 1, 0, 0, 0)
	for _, size := range []int{20, 127, 128, 16383, 16384, 1 << 20, 1<<21 - 1, 1 << 21} {
		count := size - len(head) - len(form(size))
		body := append(slices.Clone(head), form(count)...)
		body = append(body, make([]byte, count)...)
		frame, begin := sealed(body)
		want, wantAt := api.OK, 0
		if count > 1<<20 {
			want, wantAt = api.ErrPacked, begin
		}
		if p, e, at := compress.Decode(frame); e != want || at != wantAt || (e == api.OK) != (len(p.Owner) == count) {
			t.Error(size, e, at)
		}
		frame, begin = sealed(append(body, 0))
		if p, e, at := compress.Decode(frame); e != api.ErrTail || at != begin+len(body) || !isNone(p) {
			t.Error(size, e, at)
		}
		body[len(body)-1] = 0x80
		frame, begin = sealed(body)
		if p, e, at := compress.Decode(frame); e != api.ErrShort || at != begin+len(body)-1 || !isNone(p) {
			t.Error(size, e, at)
		}
		body[0], body[len(body)-1] = 0, 0
		frame, begin = sealed(body)
		if p, e, at := compress.Decode(frame); e != api.ErrPacked || at != begin || !isNone(p) {
			t.Error(size, e, at)
		}
	}
}

// P22.5: example 2.
func TestNoSuchState(t *testing.T) {
	p := nestPacked()
	for _, state := range []int{-1, 6, 7, math.MinInt, math.MaxInt} {
		if x, n := compress.Action(p, state, 0), compress.Goto(p, state, 0); x != fault || n != -1 {
			t.Error(state, x, n)
		}
	}
}

// P22.2 to P22.4: any packed tables, with numbers turned.
func TestTurnedTables(t *testing.T) {
	r := rand.New(rand.NewSource(2202))
	answers := map[api.Errno]int{}
	for n := range 30000 {
		p := anyPacked(r, n%4)
		answers[heldOfPacked(t, p)]++
		if n%10 < 4 {
			heldOfAnswers(t, p)
		}
	}
	oftenAnswered(t, answers, 8000, api.OK, api.ErrPacked)
}

// P22.4, P22.7: bodies of any packed tables, with bytes turned, in and out.
func TestTurnedBodies(t *testing.T) {
	r := rand.New(rand.NewSource(2204))
	answers := map[api.Errno]int{}
	for n := range 30000 {
		numbers := numbersOf(anyPacked(r, 0))
		if n%2 == 0 {
			numbers[r.Intn(len(numbers))] = odd(r, 5)
		}
		body := form(numbers...)
		for range r.Intn(4) {
			at := r.Intn(len(body) + 1)
			switch c := byte(r.Intn(256) & r.Intn(256)); {
			case r.Intn(3) == 0:
				body = slices.Insert(body, at, c)
			case at < len(body) && r.Intn(3) == 0:
				body = slices.Delete(body, at, at+1)
			case at < len(body):
				body[at] = c
			}
		}
		answers[heldOfBody(t, body)]++
	}
	oftenAnswered(t, answers, 300, api.OK, api.ErrShort, api.ErrForm, api.ErrRange, api.ErrTail, api.ErrPacked)
}

// P22.4, P22.7: every body of at most so many of some bytes, from the number of rows on, and from the number of places on.
func TestSmallBodies(t *testing.T) {
	answers := map[api.Errno]int{}
	for _, c := range []struct {
		head  []byte
		bytes []byte
		most  int
	}{
		{form(1, 1), []byte{0, 1, 2, 3}, 9},
		{form(1, 1, 2, 0, 0, 0, 0, 1, 2), []byte{0, 1, 2, 3, 4}, 7},
		{nil, []byte{0, 1, 0x80}, 9},
	} {
		bodies := [][]byte{c.head}
		for range c.most + 1 {
			var next [][]byte
			for _, body := range bodies {
				e := heldOfBody(t, body)
				answers[e]++
				if e == api.ErrTail || e == api.ErrForm { // which more bytes do not mend
					continue
				}
				for _, b := range c.bytes {
					next = append(next, append(bytes.Clone(body), b))
				}
			}
			bodies = next
		}
	}
	oftenAnswered(t, answers, 200, api.OK, api.ErrShort, api.ErrForm, api.ErrTail, api.ErrPacked)
}

// P22.1: any tables, some with a number turned.
func TestAnyTables(t *testing.T) {
	r := rand.New(rand.NewSource(2201))
	answers := map[api.Errno]int{}
	for range 12000 {
		g := anyGrammar(r, 6, 6)
		n := 1 + r.Intn(8)
		y := anyTable(r, g, n)
		if r.Intn(3) == 0 {
			row := &y.Rows[r.Intn(n)]
			switch r.Intn(3) {
			case 0:
				row.Default = odd(r, len(g.Prods))
			case 1:
				row.Gotos[r.Intn(len(row.Gotos))] = odd(r, n)
			default:
				row.Acts[r.Intn(len(row.Acts))].Arg = odd(r, n)
			}
		}
		want, _ := table.Shape(g, y)
		if _, e := heldOfTable(t, g, y); e != want {
			t.Fatal(g, y, e)
		}
		answers[want]++
	}
	oftenAnswered(t, answers, 100, api.OK, api.ErrRange, api.ErrAction)
}
