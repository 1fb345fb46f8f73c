package prec_test

import (
	"math"
	"math/rand"
	"slices"
	"testing"

	"gantry/api"
	"gantry/grammar"
	"gantry/prec"
)

// sums is E → E + E, E → E * E, E → n, with the levels left + and left *.
func sums() api.Grammar {
	e := non(0)
	return api.Grammar{
		Terms:  []string{"'+'", "'*'", "n"},
		Nons:   []string{"E"},
		Prods:  []api.Prod{prod(0, e, term(0), e), prod(0, e, term(1), e), prod(0, term(2))},
		Levels: []api.Level{left(0), left(1)},
	}
}

// P14.1, P14.2 and P14.3: the chapter's examples.
func TestExamples(t *testing.T) {
	g := sums()
	for _, c := range []struct {
		prod, term int
		want       api.Decision
	}{
		{0, 1, shift(1, 1, 0)}, {1, 0, reduce(0, 1, 1)}, {0, 0, reduce(0, 0, 0)}, {1, 1, reduce(1, 1, 1)},
		{2, 2, none(2)}, {2, 0, none(0)}, {0, 2, none(2)},
	} {
		if d, e := prec.Decide(g, c.prod, c.term); e != api.OK || !same(d, c.want) {
			t.Error("Decide:", c, d, e)
		}
	}
	for p, want := range []int{0, 1, 2} {
		if n, e := prec.TerminalOf(g, p); n != want || e != api.OK {
			t.Error("TerminalOf:", p, n, e)
		}
	}
	for n, want := range []int{0, 1, -1} {
		if l, e := prec.LevelOf(g, n); l != want || e != api.OK {
			t.Error("LevelOf:", n, l, e)
		}
		if l, e := prec.ProdLevel(g, n); l != want || e != api.OK {
			t.Error("ProdLevel:", n, l, e)
		}
	}
	if d, e := prec.Resolve(g, clashes(0, 0, 1)); e != api.OK || !same(d, none(0)) {
		t.Error("without a shift:", d, e)
	}
	if d, e := prec.Resolve(g, clashes(0, 0)); e != api.ErrArg || !isZero(d) {
		t.Error("one alone:", d, e)
	}
}

// P14.1: a production's own terminal is its Prec, or the last one on its right side, wherever that stands, or none.
func TestOwnTerminals(t *testing.T) {
	e := non(0)
	g := grammarOf(4, 1, 0,
		prod(0, e, term(0), e), prod(0, term(1), e, term(2)), prod(0, term(3), e, e), prod(0, e, e), prod(0),
		with(3, prod(0, term(1), e)), with(2, prod(0, e)), with(0, prod(0, term(0))), prod(0, term(2), term(1), e))
	g.Levels = []api.Level{neither(2), right(0, 3)}
	for p, want := range []int{0, 2, 3, -1, -1, 3, 2, 0, 1} {
		if n, e := prec.TerminalOf(g, p); n != want || e != api.OK {
			t.Error("TerminalOf:", p, n, e)
		}
	}
	for p, want := range []int{1, 0, 1, -1, -1, 1, 0, 1, -1} {
		if n, e := prec.ProdLevel(g, p); n != want || e != api.OK {
			t.Error("ProdLevel:", p, n, e)
		}
	}
	for n, want := range []int{1, -1, 0, 1} {
		if l, e := prec.LevelOf(g, n); l != want || e != api.OK {
			t.Error("LevelOf:", n, l, e)
		}
	}
}

// mixed has a production for each of four levels, and one that no level has.
func mixed() api.Grammar {
	e := non(0)
	g := grammarOf(5, 1, 0, prod(0, e, term(0), e), prod(0, e, term(1), e), prod(0, e, term(2), e), prod(0, e, term(3), e), prod(0, term(4)))
	g.Levels = []api.Level{right(0), neither(1), neither(2), left(3)}
	return g
}

// P14.3: what each mixture of verdicts comes to.
func TestMixtures(t *testing.T) {
	g := mixed()
	for _, c := range []struct {
		about string
		c     api.Conflict
		want  api.Decision
	}{
		{"one that loses", clash(1, 0), shift(1, 1, 0)},
		{"two that lose", clash(3, 0, 1), shift(3, 3, 0, 1)},
		{"a shift by its own level", clash(0, 0), shift(0, 0, 0)},
		{"one that wins", clash(1, 2), reduce(1, 2, 2)},
		{"one that wins and one that loses", clash(1, 0, 2), reduce(1, 2, 2, 0)},
		{"one that wins and one of the shift's level", clash(1, 1, 2), reduce(1, 2, 2, 1)},
		{"one that wins among more", clash(2, 0, 1, 2, 3), reduce(2, 3, 3, 0, 1, 2)},
		{"one that wins by its own level", clash(3, 1, 3), reduce(3, 3, 3, 1)},
		{"two that win", clash(1, 2, 3), none(1)},
		{"two that win beside one that loses", clash(1, 0, 2, 3), none(1)},
		{"neither", clash(1, 1), fail(1, 1, 1)},
		{"neither, and one that loses", clash(2, 0, 2), fail(2, 2, 0, 2)},
		{"neither, and two that lose", clash(2, 0, 1, 2), fail(2, 2, 0, 1, 2)},
		{"a production without a level", clash(1, 0, 4), none(1)},
		{"one that wins and one without a level", clash(1, 2, 4), none(1)},
		{"a lookahead without a level", clash(4, 0, 3), none(4)},
		{"acceptance and one that wins", clash(1, -1, 2), none(1)},
		{"acceptance alone", clash(1, -1), none(1)},
		{"no shift", clashes(1, 0, 2), none(1)},
		{"no shift, but acceptance", clashes(5, -1, 2), none(5)},
		{"no shift under the end marker", clashes(5, 0, 1, 2, 3, 4), none(5)},
	} {
		if d, e := prec.Resolve(g, c.c); e != api.OK || !same(d, c.want) {
			t.Errorf("%s: %v, %v, want %v", c.about, d, e, c.want)
		}
	}
}

// P14.3: of the states nothing is asked but that a shift's is not below -1.
func TestStates(t *testing.T) {
	g := sums()
	for _, state := range []int{math.MinInt, -1, 0, 7, math.MaxInt} {
		for _, to := range []int{0, 1, 2048, math.MaxInt} {
			if d, e := prec.Resolve(g, api.Conflict{State: state, Look: 1, Shift: to, Reduce: []int{0}}); e != api.OK || !same(d, shift(1, 1, 0)) {
				t.Error(state, to, d, e)
			}
		}
	}
}

// P14.3: each fault, and which is told ahead of which.
func TestWrongConflicts(t *testing.T) {
	g := sums()
	for _, c := range []struct {
		about string
		c     api.Conflict
		want  api.Errno
	}{
		{"a lookahead below all", clash(-1, 0), api.ErrRange},
		{"the least lookahead", clash(math.MinInt, 0), api.ErrRange},
		{"a lookahead above the end marker", clash(4, 0), api.ErrRange},
		{"the greatest lookahead", clashes(math.MaxInt, 0, 1), api.ErrRange},
		{"a production below -1", clashes(0, -2, 1), api.ErrRange},
		{"a production above all", clash(0, 0, 3), api.ErrRange},
		{"the greatest production", clash(0, math.MaxInt), api.ErrRange},
		{"the least production", clash(0, math.MinInt, 0), api.ErrRange},
		{"a shift below -1", api.Conflict{Look: 0, Shift: -2, Reduce: []int{0, 1}}, api.ErrRange},
		{"the least shift", api.Conflict{Look: 0, Shift: math.MinInt, Reduce: []int{0, 1}}, api.ErrRange},
		{"a production twice", clash(0, 0, 0), api.ErrOrder},
		{"productions that fall", clash(0, 1, 0), api.ErrOrder},
		{"the last falls", clash(0, 0, 1, 2, 1), api.ErrOrder},
		{"acceptance twice", clashes(0, -1, -1), api.ErrOrder},
		{"acceptance behind", clashes(0, 0, -1), api.ErrOrder},
		{"nothing", api.Conflict{}, api.ErrArg},
		{"a shift alone", clash(0), api.ErrArg},
		{"a shift alone, of an empty list", api.Conflict{Look: 0, Shift: 4, Reduce: []int{}}, api.ErrArg},
		{"no shift and nothing", clashes(0), api.ErrArg},
		{"one reduction", clashes(0, 1), api.ErrArg},
		{"acceptance", clashes(3, -1), api.ErrArg},
		{"a shift of the end marker", clash(3, 0), api.ErrArg},
		{"a shift of the end marker against two", clash(3, 0, 1), api.ErrArg},
		{"range ahead of order: a lookahead", clash(4, 1, 0), api.ErrRange},
		{"range ahead of order: a production behind", clash(0, 1, 0, 3), api.ErrRange},
		{"range ahead of order: a shift", api.Conflict{Look: 0, Shift: -2, Reduce: []int{1, 0}}, api.ErrRange},
		{"range ahead of few", clashes(4), api.ErrRange},
		{"range ahead of none", api.Conflict{Look: 0, Shift: -2}, api.ErrRange},
		{"order ahead of the end marker", clash(3, 1, 0), api.ErrOrder},
	} {
		if d, e := prec.Resolve(g, c.c); e != c.want || !isZero(d) {
			t.Errorf("%s: %v, %v, want %v", c.about, d, e, c.want)
		}
		if l, e, at := prec.ResolveAll(g, []api.Conflict{clash(0, 0), clash(1, 0), c.c, {}}); e != c.want || at != 2 || len(l) != 0 {
			t.Errorf("%s among others: %v, %v, %d", c.about, l, e, at)
		}
	}
}

// P14.1 and P14.2: numbers that are none, and which is told ahead.
func TestWrongNumbers(t *testing.T) {
	g := sums()
	numbers := []int{math.MinInt, -2, -1, 0, 1, 2, 3, 4, math.MaxInt}
	within := func(n int) bool { return n >= 0 && n <= 2 }
	for _, n := range numbers {
		l, e := prec.LevelOf(g, n)
		if within(n) && (e != api.OK || l != modelLevel(g, n)) || !within(n) && (e != api.ErrSymbol || l != 0) {
			t.Error("LevelOf:", n, l, e)
		}
		own, e := prec.TerminalOf(g, n)
		if within(n) && (e != api.OK || own != modelTerminal(g, n)) || !within(n) && (e != api.ErrRange || own != 0) {
			t.Error("TerminalOf:", n, own, e)
		}
		l, e = prec.ProdLevel(g, n)
		if within(n) && (e != api.OK || l != modelProdLevel(g, n)) || !within(n) && (e != api.ErrRange || l != 0) {
			t.Error("ProdLevel:", n, l, e)
		}
		for _, m := range numbers {
			d, e := prec.Decide(g, n, m)
			switch {
			case !within(n):
				if e != api.ErrRange || !isZero(d) {
					t.Error("Decide:", n, m, d, e)
				}
			case !within(m):
				if e != api.ErrSymbol || !isZero(d) {
					t.Error("Decide:", n, m, d, e)
				}
			case e != api.OK || !same(d, modelDecide(g, n, m)):
				t.Error("Decide:", n, m, d, e)
			}
		}
	}
}

// held holds all that is asked of a grammar and conflicts, wrong ones too, against the models.
func held(t *testing.T, g api.Grammar, l []api.Conflict) {
	t.Helper()
	for p := range g.Prods {
		own, e := prec.TerminalOf(g, p)
		at, f := prec.ProdLevel(g, p)
		if e != api.OK || f != api.OK || own != modelTerminal(g, p) || at != modelProdLevel(g, p) {
			t.Fatal("a production's:", g, p, own, e, at, f)
		}
		for n := range g.Terms {
			if d, e := prec.Decide(g, p, n); e != api.OK || !same(d, modelDecide(g, p, n)) {
				t.Fatalf("Decide(%v, %d, %d): %v, %v, want %v", g, p, n, d, e, modelDecide(g, p, n))
			}
		}
	}
	for n := range g.Terms {
		if at, e := prec.LevelOf(g, n); e != api.OK || at != modelLevel(g, n) {
			t.Fatal("LevelOf:", g, n, at, e)
		}
	}
	for _, c := range l {
		want, fault := modelResolve(g, c)
		if d, e := prec.Resolve(g, c); e != fault || !same(d, want) {
			t.Fatalf("Resolve(%v, %v): %v, %v, want %v, %v", g, c, d, e, want, fault)
		}
	}
	heldTogether(t, g, l)
}

// heldTogether holds ResolveAll, and Used of what it answers.
func heldTogether(t *testing.T, g api.Grammar, l []api.Conflict) {
	t.Helper()
	all, e, n := prec.ResolveAll(g, l)
	used := make([]bool, len(g.Levels))
	for at, c := range l {
		want, fault := modelResolve(g, c)
		if fault != api.OK {
			if e != fault || n != at || len(all) != 0 {
				t.Fatal("ResolveAll:", g, l, all, e, n)
			}
			return
		}
		if e == api.OK && !same(all[at], want) {
			t.Fatal("ResolveAll:", g, c, all[at])
		}
		if want.By >= 0 {
			used[want.By] = true
		}
	}
	if e != api.OK || n != len(l) || len(all) != len(l) {
		t.Fatal("ResolveAll:", g, l, all, e, n)
	}
	if got, e := prec.Used(g, all); e != api.OK || !slices.Equal(got, used) {
		t.Fatal("Used:", g, all, got, e)
	}
}

// P14.1 to P14.4: all levels of three terminals, all conflicts of four productions, and some that are none.
func TestSmallGrammars(t *testing.T) {
	e := non(0)
	eachLevels(3, func(levels []api.Level) {
		g := grammarOf(3, 1, 0, prod(0, e, term(0), e), prod(0, e, term(1), e), with(2, prod(0, term(0))), prod(0, e))
		g.Levels = levels
		var l []api.Conflict
		for look := -1; look <= 4; look++ {
			for to := -2; to <= 1; to++ {
				for _, reduce := range subsets([]int{-1, 0, 1, 2, 3}) {
					l = append(l, api.Conflict{Look: look, Shift: to, Reduce: reduce})
				}
			}
		}
		held(t, g, l)
		heldTogether(t, g, slices.DeleteFunc(l, func(c api.Conflict) bool { return modelFault(g, c) != api.OK }))
	})
}

// P14.1 to P14.4: many greater grammars.
func TestGreaterGrammars(t *testing.T) {
	r := rand.New(rand.NewSource(141))
	for range 400 {
		g := anyGrammar(r, 12, 3, 20, 5)
		var l []api.Conflict
		for range 30 {
			l = append(l, anyConflict(r, g))
		}
		held(t, g, l)
	}
}

func FuzzGrammars(f *testing.F) {
	f.Add([]byte{3, 1, 0, 2, 1, 255, 0, 3, 1, 255, 2, 0, 1, 0, 3, 1, 2})
	f.Add([]byte{2, 2, 1, 1, 0, 255, 4, 0, 4, 1, 255, 5, 5, 2, 0, 0, 1, 2})
	f.Fuzz(func(t *testing.T, b []byte) {
		next := func(n int) int {
			if len(b) == 0 {
				return 0
			}
			x := int(b[0]) % n
			b = b[1:]
			return x
		}
		g := grammarOf(4, 2, 0)
		for range next(5) {
			g.Levels = append(g.Levels, level(api.Assoc(1+next(3)), next(4)))
		}
		for range 1 + next(6) {
			p := with(next(5)-1, prod(next(2)))
			for range next(5) {
				p.Right = append(p.Right, api.Sym{Kind: api.SymKind(1 + next(2)), N: next(2)})
			}
			g.Prods = append(g.Prods, p)
		}
		if e, _ := grammar.Check(g); e != api.OK {
			return
		}
		var l []api.Conflict
		for len(b) > 0 {
			c := api.Conflict{Look: next(7) - 1, Shift: next(4) - 2}
			for range next(5) {
				c.Reduce = append(c.Reduce, next(9)-2)
			}
			l = append(l, c)
		}
		held(t, g, l)
	})
}

// refused holds that every call answers an error and nothing else.
func refused(t *testing.T, g api.Grammar, n int, want api.Errno) {
	t.Helper()
	if l, e := prec.LevelOf(g, n); e != want || l != 0 {
		t.Errorf("LevelOf: %v, %v, want %v", l, e, want)
	}
	if l, e := prec.TerminalOf(g, n); e != want || l != 0 {
		t.Errorf("TerminalOf: %v, %v, want %v", l, e, want)
	}
	if l, e := prec.ProdLevel(g, n); e != want || l != 0 {
		t.Errorf("ProdLevel: %v, %v, want %v", l, e, want)
	}
	if d, e := prec.Decide(g, n, n); e != want || !isZero(d) {
		t.Errorf("Decide: %v, %v, want %v", d, e, want)
	}
	if d, e := prec.Resolve(g, clash(n, n)); e != want || !isZero(d) {
		t.Errorf("Resolve: %v, %v, want %v", d, e, want)
	}
	for _, l := range [][]api.Conflict{nil, {clash(0, 0), clash(n, n)}} {
		if all, e, at := prec.ResolveAll(g, l); e != want || len(all) != 0 || at != 0 {
			t.Errorf("ResolveAll: %v, %v, %d, want %v", all, e, at, want)
		}
	}
	for _, l := range [][]api.Decision{nil, {none(0), {By: n}}} {
		if used, e := prec.Used(g, l); e != want || len(used) != 0 {
			t.Errorf("Used: %v, %v, want %v", used, e, want)
		}
	}
}

// P14.1 to P14.4: a grammar that may not be is told ahead of all else.
func TestWrongGrammars(t *testing.T) {
	for _, do := range []func(g *api.Grammar){
		func(g *api.Grammar) { *g = api.Grammar{} },
		func(g *api.Grammar) { g.Nons = nil },
		func(g *api.Grammar) { g.Terms[1] = "E" },
		func(g *api.Grammar) { g.Start = math.MinInt },
		func(g *api.Grammar) { g.Prods = nil },
		func(g *api.Grammar) { g.Prods[2].Left = -1 },
		func(g *api.Grammar) { g.Prods[2].Right = []api.Sym{term(3)} },
		func(g *api.Grammar) { g.Prods[1].Right = slices.Repeat([]api.Sym{term(0)}, 17) },
		func(g *api.Grammar) { g.Prods[2] = g.Prods[1] },
		func(g *api.Grammar) { g.Prods[2].Prec = 3 },
		func(g *api.Grammar) { g.Prods[2].Prec = -2 },
		func(g *api.Grammar) { g.Levels[1].Assoc = 0 },
		func(g *api.Grammar) { g.Levels[1].Assoc = 4 },
		func(g *api.Grammar) { g.Levels[0].Terms = nil },
		func(g *api.Grammar) { g.Levels[0].Terms = []int{math.MaxInt} },
		func(g *api.Grammar) { g.Levels[0].Terms = []int{2, 0} },
		func(g *api.Grammar) { g.Levels[1].Terms = []int{0} },
		func(g *api.Grammar) { g.Levels = slices.Repeat(g.Levels, 17) },
	} {
		g := sums()
		do(&g)
		want, _ := grammar.Check(g)
		if want == api.OK {
			t.Fatal("a grammar that may be:", g)
		}
		for _, n := range []int{0, -5, math.MaxInt} {
			refused(t, g, n, want)
		}
	}
}

// greatest has as many terminals, levels and productions as there may be: terminals 2 i and 2 i + 1 stand in level i; productions 0 to 63 end with the terminal of their number, the others have its level by Prec, four of each.
func greatest(a api.Assoc) api.Grammar {
	g := grammarOf(64, 1, 0)
	for n := range 32 {
		g.Levels = append(g.Levels, level(a, 2*n, 2*n+1))
	}
	for n := range 64 {
		g.Prods = append(g.Prods, prod(0, non(0), term(n)))
	}
	for n := range 192 {
		g.Prods = append(g.Prods, with(n%64, prod(0, term(n%64), non(0), term((n+n/64)%64), non(0), term(0))))
	}
	return g
}

// P14.1 to P14.4: as many of all as there may be.
func TestGreatest(t *testing.T) {
	var all, low []int
	for p := range 256 {
		all = append(all, p)
		if p%64 < 62 {
			low = append(low, p)
		}
	}
	for a, want := range map[api.Assoc]api.Decision{api.AssocLeft: none(63), api.AssocRight: shift(63, 31, all...), api.AssocNone: fail(63, 31, all...)} {
		g := greatest(a)
		if d, e := prec.Resolve(g, clash(63, all...)); e != api.OK || !same(d, want) {
			t.Error(a, d, e)
		}
		if d, e := prec.Resolve(g, clash(62, low...)); e != api.OK || !same(d, shift(62, 31, low...)) {
			t.Error(a, d, e)
		}
		if d, e := prec.Resolve(g, clashes(64, append([]int{-1}, all...)...)); e != api.OK || !same(d, none(64)) {
			t.Error(a, d, e)
		}
		if _, e := prec.Resolve(g, clash(63, append(all, 256)...)); e != api.ErrRange {
			t.Error(a, e)
		}
		var l []api.Conflict
		for n := range 64 {
			l = append(l, clash(n, n), clash(n, 255-n))
			if d, e := prec.Decide(g, 255-n, 63); e != api.OK || !same(d, modelDecide(g, 255-n, 63)) {
				t.Error(a, n, d, e)
			}
		}
		heldTogether(t, g, l)
	}
}

// P14.3: of no conflicts there are no decisions; of many, all.
func TestResolveAll(t *testing.T) {
	g := sums()
	for _, l := range [][]api.Conflict{nil, {}} {
		if all, e, n := prec.ResolveAll(g, l); e != api.OK || len(all) != 0 || n != 0 {
			t.Error("of none:", all, e, n)
		}
	}
	all, e, n := prec.ResolveAll(g, slices.Repeat([]api.Conflict{clash(0, 0), clash(1, 0), clash(2, 0), clash(0, 1)}, 50000))
	if e != api.OK || n != 200000 || len(all) != n {
		t.Fatal(len(all), e, n)
	}
	for at, want := range []api.Decision{reduce(0, 0, 0), shift(1, 1, 0), none(2), reduce(0, 1, 1)} {
		for i := at; i < n; i += 4 {
			if !same(all[i], want) {
				t.Fatal(i, all[i])
			}
		}
	}
}

// P14.4: which levels decided, whatever else stands in the decisions.
func TestUsed(t *testing.T) {
	g := mixed()
	for _, c := range []struct {
		by   []int
		want []bool
	}{
		{nil, []bool{false, false, false, false}},
		{[]int{-1, -1}, []bool{false, false, false, false}},
		{[]int{0}, []bool{true, false, false, false}},
		{[]int{3, -1, 1, 3}, []bool{false, true, false, true}},
		{[]int{0, 1, 2, 3}, []bool{true, true, true, true}},
	} {
		var l []api.Decision
		for at, by := range c.by {
			l = append(l, api.Decision{Look: at - 9, Kind: api.DecideKind(7 * at), Prod: 500, Dropped: []int{9, 9, -9}, By: by})
		}
		if used, e := prec.Used(g, l); e != api.OK || !slices.Equal(used, c.want) {
			t.Error(c.by, used, e)
		}
	}
	for _, by := range []int{math.MinInt, -2, 4, math.MaxInt} {
		for _, l := range [][]api.Decision{{{By: by}}, {{By: 2}, {By: -1}, {By: by}}, {{By: by}, {By: 0}}} {
			if used, e := prec.Used(g, l); e != api.ErrLevel || len(used) != 0 {
				t.Error(by, used, e)
			}
		}
	}
	g.Levels = nil
	if used, e := prec.Used(g, []api.Decision{none(0), {By: -1}}); e != api.OK || len(used) != 0 {
		t.Error("without levels:", used, e)
	}
	if used, e := prec.Used(g, []api.Decision{{By: 0}}); e != api.ErrLevel || len(used) != 0 {
		t.Error("without levels:", used, e)
	}
}
