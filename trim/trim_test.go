package trim_test

import (
	"math"
	"math/rand"
	"slices"
	"testing"

	"gantry/api"
	"gantry/grammar"
	"gantry/trim"
)

func must[T any](x T, e api.Errno) T {
	if e != api.OK {
		panic(e)
	}
	return x
}

// heldAgainst asks all calls, and a model; it answers what Well and Wells said.
func heldAgainst(t *testing.T, g api.Grammar, tell func(api.Grammar) told) (api.Errno, api.Errno) {
	t.Helper()
	all := tell(g)
	if got, e := trim.Barren(g); e != api.OK || !slices.Equal(got, all.barren) {
		t.Fatalf("Barren of %v: %v, %v, want %v", g, got, e, all.barren)
	}
	if got, e := trim.Unreached(g); e != api.OK || !slices.Equal(got, all.unreached(g)) {
		t.Fatalf("Unreached of %v: %v, %v, want %v", g, got, e, all.unreached(g))
	}
	if got, e := trim.Circular(g); e != api.OK || !slices.Equal(got, all.circular) {
		t.Fatalf("Circular of %v: %v, %v, want %v", g, got, e, all.circular)
	}
	e, s := trim.Well(g)
	if want, symbol := modelWell(g, all); e != want || s != symbol {
		t.Fatalf("Well of %v: %v, %v, want %v, %v", g, e, s, want, symbol)
	}
	return e, heldTrim(t, g, tell)
}

// heldTrim asks Trim and Wells.
func heldTrim(t *testing.T, g api.Grammar, tell func(api.Grammar) told) api.Errno {
	t.Helper()
	want, wantE := modelTrim(g, tell)
	if got, e := trim.Trim(g); e != wantE || !same(got, want) {
		t.Fatalf("Trim of %v: %v, %v, want %v, %v", g, got, e, want, wantE)
	}
	if wantE == api.OK && len(tell(want).circular) > 0 {
		want, wantE = api.Grammar{}, api.ErrCycle
	}
	got, e := trim.Wells(g)
	if e != wantE || !same(got, want) {
		t.Fatalf("Wells of %v: %v, %v, want %v, %v", g, got, e, want, wantE)
	}
	return e
}

// shortRights are all right sides of at most two symbols.
func shortRights(terms, nons int) [][]api.Sym {
	rights := [][]api.Sym{nil}
	all := symbolsOf(grammarOf(terms, nons, 0))
	for _, a := range all {
		rights = append(rights, syms(a))
		for _, b := range all {
			rights = append(rights, syms(a, b))
		}
	}
	return rights
}

// eachSmall goes over every grammar of one terminal, two nonterminals and at most three short productions.
func eachSmall(do func(api.Grammar)) {
	var all []api.Prod
	for _, right := range shortRights(1, 2) {
		all = append(all, prod(0, right...), prod(1, right...))
	}
	for start := range 2 {
		for i := range all {
			do(grammarOf(1, 2, start, all[i]))
			for j := range i {
				do(grammarOf(1, 2, start, all[i], all[j]))
				for k := range j {
					do(grammarOf(1, 2, start, all[i], all[j], all[k]))
				}
			}
		}
	}
}

// P7.1 and P7.2: the lists that nonterminals give, of every small grammar.
func TestSmallGrammars(t *testing.T) {
	well, wells := map[api.Errno]int{}, map[api.Errno]int{}
	eachSmall(func(g api.Grammar) {
		a, b := heldAgainst(t, g, tellByLists)
		well[a]++
		wells[b]++
	})
	for _, e := range []api.Errno{api.OK, api.ErrBarren, api.ErrUnreached, api.ErrCycle} {
		if well[e] < 20 {
			t.Error("Well too seldom:", e, well)
		}
	}
	for _, e := range []api.Errno{api.OK, api.ErrBarren, api.ErrTerms, api.ErrCycle} {
		if wells[e] < 20 {
			t.Error("Wells too seldom:", e, wells)
		}
	}
}

// P7.1 and P7.2: many grammars with three nonterminals, likewise; and greater ones, with levels and precedences, by closed sets.
func TestGreaterGrammars(t *testing.T) {
	r := rand.New(rand.NewSource(71))
	for range 1500 {
		heldAgainst(t, anyGrammar(r, 2, 3, 7, 2), tellByLists)
	}
	for range 6000 {
		heldAgainst(t, anyGrammar(r, 4, 3, 7, 3), tellBySets)
	}
	for range 800 {
		heldAgainst(t, anyGrammar(r, 4, 5, 12, 4), tellBySets)
	}
}

// The two models tell the same.
func TestModels(t *testing.T) {
	r := rand.New(rand.NewSource(72))
	for range 1500 {
		g := anyGrammar(r, 2, 3, 7, 2)
		a, b := tellByLists(g), tellBySets(g)
		if !slices.Equal(a.barren, b.barren) || !slices.Equal(a.reached, b.reached) || !slices.Equal(a.circular, b.circular) {
			t.Fatal(g.Prods, a, b)
		}
	}
}

func FuzzGrammars(f *testing.F) {
	f.Add([]byte{0, 5, 4, 255, 1, 0, 255, 2, 1, 255, 1, 255})
	f.Add([]byte{1, 3, 0, 255, 0, 3, 4, 255, 2, 5, 5, 1})
	f.Fuzz(func(t *testing.T, b []byte) {
		g := grammarOf(2, 3, 0)
		g.Levels = []api.Level{{Assoc: api.AssocRight, Terms: []int{1}}, {Assoc: api.AssocNone, Terms: []int{0}}}
		for i := 0; i < len(b) && i < 60; i++ {
			p := prod(int(b[i] % 3))
			p.Prec = int(b[i]/3%3) - 1
			for i++; i < len(b) && b[i] < 200 && len(p.Right) < 5; i++ {
				if n := int(b[i] % 5); n < 2 {
					p.Right = append(p.Right, term(n))
				} else {
					p.Right = append(p.Right, non(n-2))
				}
			}
			g.Prods = append(g.Prods, p)
		}
		if e, _ := grammar.Check(g); e == api.OK {
			heldAgainst(t, g, tellBySets)
		}
	})
}

// P7.1 and P7.2: the chapter's examples.
func TestExamples(t *testing.T) {
	g := api.Grammar{Terms: []string{"a"}, Nons: []string{"S", "U"}, Prods: []api.Prod{prod(0, term(0)), prod(1, non(1), term(0))}}
	if l, e := trim.Barren(g); e != api.OK || !slices.Equal(l, []int{1}) {
		t.Error("1, Barren:", l, e)
	}
	if l, e := trim.Unreached(g); e != api.OK || !slices.Equal(l, syms(non(1))) {
		t.Error("1, Unreached:", l, e)
	}
	if e, s := trim.Well(g); e != api.ErrBarren || s != non(1) {
		t.Error("1, Well:", e, s)
	}
	want := api.Grammar{Terms: []string{"a"}, Nons: []string{"S"}, Prods: []api.Prod{prod(0, term(0))}}
	if got, e := trim.Trim(g); e != api.OK || !same(got, want) {
		t.Error("1, Trim:", got, e)
	}
	if got, e := trim.Wells(g); e != api.OK || !same(got, want) {
		t.Error("1, Wells:", got, e)
	}
	for i, g := range []api.Grammar{
		grammarOf(1, 1, 0, prod(0, non(0)), prod(0, term(0))),
		grammarOf(1, 2, 0, prod(0, non(1), non(0)), prod(1), prod(0, term(0))),
	} {
		if l, e := trim.Circular(g); e != api.OK || !slices.Equal(l, []int{0}) {
			t.Error(i+2, "Circular:", l, e)
		}
		if e, s := trim.Well(g); e != api.ErrCycle || s != non(0) {
			t.Error(i+2, "Well:", e, s)
		}
		if got, e := trim.Wells(g); e != api.ErrCycle || !isZero(got) {
			t.Error(i+2, "Wells:", got, e)
		}
	}
}

// P7.1: Well names the first kind of fault, and of it the first symbol.
func TestWellOrder(t *testing.T) {
	for i, c := range []struct {
		g api.Grammar
		e api.Errno
		s api.Sym
	}{
		{grammarOf(1, 1, 0, prod(0, term(0))), api.OK, api.Sym{}},
		// 1 and 2 barren, 3 and t1 unreached, 0 circular
		{grammarOf(2, 4, 0, prod(0, non(0)), prod(0, term(0)), prod(0, non(2)), prod(3)), api.ErrBarren, non(1)},
		// the start itself, barren and circular
		{grammarOf(1, 1, 0, prod(0, non(0))), api.ErrBarren, non(0)},
		// a terminal ahead of a nonterminal with a lower number
		{grammarOf(4, 2, 1, prod(1, non(1)), prod(1, term(0)), prod(1, term(2)), prod(0, term(1))), api.ErrUnreached, term(1)},
		// the nonterminal alone
		{grammarOf(1, 2, 1, prod(1, non(1)), prod(1, term(0)), prod(0)), api.ErrUnreached, non(0)},
		// a terminal that stands in a level and as a Prec alone is not reached
		{api.Grammar{Terms: []string{"a", "b"}, Nons: []string{"S"}, Prods: []api.Prod{{Right: syms(term(0)), Prec: 1}}, Levels: []api.Level{{Assoc: api.AssocLeft, Terms: []int{1}}}}, api.ErrUnreached, term(1)},
		// 1 and 2 give each other, 0 not itself
		{grammarOf(1, 3, 0, prod(0, non(2)), prod(2, non(1)), prod(1, non(2)), prod(1, term(0))), api.ErrCycle, non(1)},
		// the others are nullable, but not so the terminal
		{grammarOf(1, 2, 0, prod(0, non(1), non(0), term(0)), prod(1), prod(0)), api.OK, api.Sym{}},
		// the same one twice, nullable: it gives itself alone
		{grammarOf(1, 1, 0, prod(0, non(0), non(0)), prod(0, term(0)), prod(0)), api.ErrCycle, non(0)},
		// the same one twice, not nullable
		{grammarOf(1, 1, 0, prod(0, non(0), non(0)), prod(0, term(0))), api.OK, api.Sym{}},
	} {
		if e, s := trim.Well(c.g); e != c.e || s != c.s {
			t.Errorf("%d: %v, %v, want %v, %v", i, e, s, c.e, c.s)
		}
	}
}

// P7.1: what is barren, unreached or circular is so, whatever else is: a circular one may be barren and unreached.
func TestAllAtOnce(t *testing.T) {
	g := grammarOf(3, 5, 4,
		prod(4, term(1), non(2)), prod(4, term(1)), // start reaches 2, which is barren, and by it t2
		prod(2, non(2), term(2)),
		prod(0, non(1)), prod(1, non(0)), // barren, unreached and circular
		prod(3, non(3), non(3)), prod(3), // circular
	)
	if l := must(trim.Barren(g)); !slices.Equal(l, []int{0, 1, 2}) {
		t.Error(l)
	}
	if l := must(trim.Unreached(g)); !slices.Equal(l, syms(term(0), non(0), non(1), non(3))) {
		t.Error(l)
	}
	if l := must(trim.Circular(g)); !slices.Equal(l, []int{0, 1, 3}) {
		t.Error(l)
	}
	want := api.Grammar{Terms: []string{"t1"}, Nons: []string{"n4"}, Prods: []api.Prod{prod(0, term(0))}}
	if got, e := trim.Wells(g); e != api.OK || !same(got, want) {
		t.Error(got, e)
	}
}

// P7.2: what stays keeps its order, names, levels and Prec; numbers close up.
func TestTrimKeeps(t *testing.T) {
	g := api.Grammar{
		Terms: []string{"lost", "'+'", "'*'", "ghost", "n", "'='"},
		Nons:  []string{"Barren", "E", "Far", "S", "Near"},
		Start: 3,
		Prods: []api.Prod{
			{Left: 1, Right: syms(non(1), term(1), non(1)), Prec: 2},
			{Left: 2, Right: syms(non(1), term(3)), Prec: 4},
			{Left: 3, Right: syms(term(0), non(0)), Prec: 1},
			{Left: 3, Right: syms(non(1), non(4)), Prec: 0},
			{Left: 0, Right: syms(non(0), term(4)), Prec: -1},
			{Left: 1, Right: syms(term(4)), Prec: 5},
			{Left: 1, Right: syms(non(1), term(2), non(1)), Prec: -1},
			{Left: 4, Right: nil, Prec: 4},
		},
		Levels: []api.Level{
			{Assoc: api.AssocNone, Terms: []int{3, 5}},
			{Assoc: api.AssocRight, Terms: []int{0, 2, 4}},
			{Assoc: api.AssocLeft, Terms: []int{1}},
		},
	}
	want := api.Grammar{
		Terms: []string{"'+'", "'*'", "n"},
		Nons:  []string{"E", "S", "Near"},
		Start: 1,
		Prods: []api.Prod{
			{Left: 0, Right: syms(non(0), term(0), non(0)), Prec: 1},
			{Left: 1, Right: syms(non(0), non(2)), Prec: -1},
			{Left: 0, Right: syms(term(2)), Prec: -1},
			{Left: 0, Right: syms(non(0), term(1), non(0)), Prec: -1},
			{Left: 2, Right: nil, Prec: 2},
		},
		Levels: []api.Level{
			{Assoc: api.AssocRight, Terms: []int{1, 2}},
			{Assoc: api.AssocLeft, Terms: []int{0}},
		},
	}
	if got, e := trim.Trim(g); e != api.OK || !same(got, want) {
		t.Errorf("%v %v", got, e)
	}
}

// P7.2: ErrBarren goes ahead of ErrTerms, that ahead of Wells' ErrCycle.
func TestTrimErrors(t *testing.T) {
	for i, c := range []struct {
		g           api.Grammar
		trim, wells api.Errno
	}{
		{grammarOf(1, 1, 0, prod(0, non(0))), api.ErrBarren, api.ErrBarren},
		{grammarOf(1, 2, 0, prod(1, term(0))), api.ErrBarren, api.ErrBarren},
		{grammarOf(1, 1, 0, prod(0)), api.ErrTerms, api.ErrTerms},
		{grammarOf(1, 1, 0, prod(0), prod(0, non(0))), api.ErrTerms, api.ErrTerms},
		{grammarOf(1, 2, 0, prod(0), prod(1, term(0))), api.ErrTerms, api.ErrTerms},
		// the terminal stands beside a barren one alone
		{grammarOf(1, 2, 0, prod(0), prod(0, term(0), non(1))), api.ErrTerms, api.ErrTerms},
		{grammarOf(1, 1, 0, prod(0, term(0)), prod(0, non(0))), api.OK, api.ErrCycle},
		// what was circular is unreached, or barren
		{grammarOf(1, 2, 0, prod(0, term(0)), prod(1, non(1)), prod(1)), api.OK, api.OK},
		{grammarOf(1, 2, 0, prod(0, term(0)), prod(0, non(1)), prod(1, non(1))), api.OK, api.OK},
	} {
		got, e := trim.Trim(c.g)
		if e != c.trim || isZero(got) != (e != api.OK) {
			t.Errorf("%d: Trim: %v, %v", i, got, e)
		}
		got, e = trim.Wells(c.g)
		if e != c.wells || isZero(got) != (e != api.OK) {
			t.Errorf("%d: Wells: %v, %v", i, got, e)
		}
	}
}

// P7.1 and P7.2: chains through as many nonterminals as there may be, both ways, with as many terminals: what is known goes all the way.
func TestGreatestGrammars(t *testing.T) {
	const n = 64
	for _, down := range []bool{false, true} {
		g := grammarOf(n, n, 0)
		at := func(i int) int { return i }
		if down {
			at = func(i int) int { return n - 1 - i }
			g.Start = n - 1
		}
		for i := range n - 1 {
			g.Prods = append(g.Prods, prod(at(i), non(at(i+1)), term(i)), prod(at(i), non(at(i+1)), non(at(i+1))))
		}
		if l := must(trim.Barren(g)); len(l) != n {
			t.Error("without an end:", l)
		}
		if l := must(trim.Unreached(g)); !slices.Equal(l, syms(term(n-1))) {
			t.Error("reached:", l)
		}
		g.Prods = append(g.Prods, prod(at(n-1), term(n-1)))
		if e, s := trim.Well(g); e != api.OK || s != (api.Sym{}) {
			t.Error("with an end:", e, s)
		}
		if got, e := trim.Wells(g); e != api.OK || !same(got, g) {
			t.Error("Wells:", e)
		}
		g.Prods = append(g.Prods, prod(at(n-1), non(at(0))))
		if l := must(trim.Circular(g)); len(l) != 0 {
			t.Error("back, but never alone:", l)
		}
		g.Prods = append(g.Prods, prod(at(n-1)))
		if l := must(trim.Circular(g)); len(l) != n {
			t.Error("back, and alone:", l)
		}
		if e, s := trim.Well(g); e != api.ErrCycle || s != non(0) {
			t.Error("back, and alone:", e, s)
		}
	}
}

// P7.2: a grammar with as many productions and as long right sides as there may be, all of use, stays; without its start's it is all of no use.
func TestGreatestSize(t *testing.T) {
	g := grammarOf(64, 64, 63)
	for i := range 256 {
		right := slices.Repeat(syms(non(i/4)), 15)
		if i%4 == 0 {
			right = slices.Repeat(syms(term(i/4)), 15)
		} else if i%4 == 1 && i > 4 {
			right = slices.Repeat(syms(non(i/4-1)), 15)
		}
		g.Prods = append(g.Prods, prod(i/4, append(right, term(i%4))...))
	}
	for i := range 32 {
		g.Levels = append(g.Levels, api.Level{Assoc: api.Assoc(1 + i%3), Terms: []int{i, 63 - i}})
	}
	if e, s := trim.Well(g); e != api.OK || s != (api.Sym{}) {
		t.Fatal(e, s)
	}
	if got, e := trim.Trim(g); e != api.OK || !same(got, g) {
		t.Error(e)
	}
	g.Prods = g.Prods[:252]
	if l := must(trim.Unreached(g)); len(l) != 127 || l[0] != term(0) || l[126] != non(62) {
		t.Error(l)
	}
	if got, e := trim.Trim(g); e != api.ErrBarren || !isZero(got) {
		t.Error(got, e)
	}
}

// P7.1 and P7.2: Check's error goes ahead of all others, and nothing is answered beside it.
func TestWrongGrammars(t *testing.T) {
	sound := func() api.Grammar { return grammarOf(2, 2, 0, prod(0, non(0)), prod(0), prod(1, non(1))) }
	twice, prec, level := sound(), sound(), sound()
	twice.Prods = append(twice.Prods, twice.Prods[2])
	prec.Prods[2].Prec = 7
	level.Levels = []api.Level{{Assoc: api.AssocLeft, Terms: []int{0}}, {Assoc: 9, Terms: []int{1}}}
	start, name, none := sound(), sound(), sound()
	start.Start = -1
	name.Nons[1] = name.Terms[1]
	none.Prods = nil
	symbol := grammarOf(1, 1, 0, prod(0), prod(0, non(math.MaxInt)))
	kind := grammarOf(1, 1, 0, prod(0, api.Sym{Kind: 3}), prod(0, api.Sym{}))
	left := grammarOf(1, 1, 0, prod(0), prod(math.MinInt))
	for i, g := range []api.Grammar{{}, twice, prec, level, start, name, none, symbol, kind, left, grammarOf(65, 1, 0, prod(0)), grammarOf(1, 65, 0, prod(64))} {
		want, _ := grammar.Check(g)
		if want == api.OK {
			t.Fatal("a grammar that may be:", i)
		}
		barren, e1 := trim.Barren(g)
		unreached, e2 := trim.Unreached(g)
		circular, e3 := trim.Circular(g)
		e4, s := trim.Well(g)
		trimmed, e5 := trim.Trim(g)
		wells, e6 := trim.Wells(g)
		for call, e := range []api.Errno{e1, e2, e3, e4, e5, e6} {
			if e != want {
				t.Errorf("grammar %d, call %d: %v, want %v", i, call, e, want)
			}
		}
		if len(barren)+len(unreached)+len(circular) != 0 || s != (api.Sym{}) || !isZero(trimmed) || !isZero(wells) {
			t.Error("beside an error:", i, barren, unreached, circular, s, trimmed, wells)
		}
	}
}

// P1: nil and empty lists are one.
func TestEmptyLists(t *testing.T) {
	g := api.Grammar{Terms: []string{"a"}, Nons: []string{"S"}, Prods: []api.Prod{{Right: nil, Prec: -1}, {Right: syms(term(0)), Prec: -1}}}
	h := api.Grammar{Terms: []string{"a"}, Nons: []string{"S"}, Prods: []api.Prod{{Right: []api.Sym{}, Prec: -1}, {Right: syms(term(0)), Prec: -1}}, Levels: []api.Level{}}
	a, e1 := trim.Wells(g)
	b, e2 := trim.Wells(h)
	if e1 != api.OK || e2 != api.OK || !same(a, b) {
		t.Error(a, e1, b, e2)
	}
}
