package earley_test

import (
	"math"
	"math/rand"
	"slices"
	"testing"

	"gantry/api"
	"gantry/earley"
	"gantry/grammar"
	"gantry/trees"
	"gantry/trim"
)

// sums is E -> E + E, E -> n; + is 0, n is 1.
func sums() api.Grammar {
	return grammarOf(2, 1, 0, prod(0, non(0), term(0), non(0)), prod(0, term(1)))
}

// The chapter's examples.
func TestExamples(t *testing.T) {
	g, w := sums(), []int{1, 0, 1}
	if b, e := earley.Accepts(g, w); e != api.OK || !b {
		t.Error("Accepts:", b, e)
	}
	if n, e := earley.Count(g, w); e != api.OK || n != 1 {
		t.Error("Count:", n, e)
	}
	n := node(1, leaf(1))
	if x, e := earley.Tree(g, w); e != api.OK || !trees.Same(x, node(0, n, leaf(0), n)) {
		t.Error("Tree:", x, e)
	}
	if l, e := earley.Next(g, w[:2]); e != api.OK || !slices.Equal(l, []int{1}) {
		t.Error("Next:", l, e)
	}
	if at, dead, e := earley.Dead(g, []int{1, 0, 0}); e != api.OK || !dead || at != 2 {
		t.Error("Dead:", at, dead, e)
	}
	if at, dead, e := earley.Dead(g, w[:2]); e != api.OK || !dead || at != 2 {
		t.Error("Dead at the end:", at, dead, e)
	}
	if at, dead, e := earley.Dead(g, w); e != api.OK || dead || at != 0 {
		t.Error("Dead of a text:", at, dead, e)
	}
}

// P23.1: the sets of the chapter's example, as they are told.
func TestChartOfSums(t *testing.T) {
	c, e := earley.Chart(sums(), []int{1, 0, 1})
	want := [][]earley.State{
		{{-1, 0, 0}, {0, 0, 0}, {1, 0, 0}},
		{{-1, 1, 0}, {0, 1, 0}, {1, 1, 0}},
		{{0, 0, 2}, {0, 2, 0}, {1, 0, 2}},
		{{-1, 1, 0}, {0, 1, 0}, {0, 1, 2}, {0, 3, 0}, {1, 1, 2}},
	}
	if e != api.OK || !slices.EqualFunc(c, want, slices.Equal) {
		t.Error(c, e)
	}
}

// heldOfTrees holds Count and Tree of a text against the model. It answers how many trees there are.
func heldOfTrees(t *testing.T, g api.Grammar, w []int) int {
	t.Helper()
	n, e := earley.Count(g, w)
	x, f := earley.Tree(g, w)
	if len(must(trim.Circular(g))) > 0 {
		if n != 0 || e != api.ErrCycle || !isZero(x) || f != api.ErrCycle {
			t.Fatal("P23.2: circular:", g.Prods, w, n, e, x, f)
		}
		return 0
	}
	m := tellerOf(g, w)
	want := m.trees(non(g.Start), 0, len(w))
	if n != want || e != api.OK {
		t.Fatal("P23.2: Count:", g.Prods, g.Start, w, n, e, want)
	}
	if want == 0 {
		if !isZero(x) || f != api.ErrNone {
			t.Fatal("P23.2: Tree of none:", g.Prods, g.Start, w, x, f)
		}
		return 0
	}
	if first := m.first(non(g.Start), 0, len(w)); f != api.OK || !trees.Same(x, first) {
		t.Fatal("P23.2: Tree:", g.Prods, g.Start, w, x, f, first)
	}
	return want
}

// held holds all calls against the model.
func held(t *testing.T, g api.Grammar, w []int, seen map[string]int) {
	t.Helper()
	if c, e := earley.Chart(g, w); e != api.OK || !slices.EqualFunc(c, modelChart(g, w), slices.Equal) {
		t.Fatal("P23.1: Chart:", g.Prods, g.Start, w, c, e, modelChart(g, w))
	}
	want := modelOf(g, w).text()
	if b, e := earley.Accepts(g, w); e != api.OK || b != want {
		t.Fatal("P23.1: Accepts:", g.Prods, g.Start, w, b, e)
	}
	if l, e := earley.Next(g, w); e != api.OK || !slices.Equal(l, modelNext(g, w)) {
		t.Fatal("P23.1: Next:", g.Prods, g.Start, w, l, e, modelNext(g, w))
	}
	at, dead := modelDead(g, w)
	if i, b, e := earley.Dead(g, w); e != api.OK || i != at || b != dead {
		t.Fatal("P23.1: Dead:", g.Prods, g.Start, w, i, b, e, at, dead)
	}
	switch {
	case want:
		seen["text"]++
	case at < len(w):
		seen["dead"]++
	default:
		seen["dead at the end"]++
	}
	if heldOfTrees(t, g, w) > 1 {
		seen["ambiguous"]++
	}
}

func seenAll(t *testing.T, seen map[string]int, least int, names ...string) {
	t.Helper()
	for _, name := range names {
		if seen[name] < least {
			t.Error("too seldom:", name, seen)
		}
	}
}

// P23.1, P23.2: every grammar of one terminal, two nonterminals and at most three short productions; the end marker's number is no terminal's.
func TestSmallGrammars(t *testing.T) {
	seen := map[string]int{}
	eachSmall(1, 2, func(g api.Grammar) {
		eachWord(below(1), 4, func(w []int) { held(t, g, w, seen) })
		held(t, g, []int{1}, seen)
		held(t, g, []int{0, 1, 0}, seen)
	})
	seenAll(t, seen, 150, "text", "dead", "dead at the end", "ambiguous")
}

// P23.1, P23.2: two terminals and one nonterminal, likewise.
func TestSmallGrammarsOfOne(t *testing.T) {
	seen := map[string]int{}
	eachSmall(2, 1, func(g api.Grammar) {
		eachWord(below(3), 3, func(w []int) { held(t, g, w, seen) })
	})
	seenAll(t, seen, 30, "text", "dead", "dead at the end", "ambiguous")
}

// P23.1, P23.2: greater grammars, many with barren, unreached and circular nonterminals.
func TestGreaterGrammars(t *testing.T) {
	r := rand.New(rand.NewSource(231))
	seen := map[string]int{}
	for range 1500 {
		g := anyGrammar(r, 3, 4, 10, 3)
		eachWord(below(len(g.Terms)), 2, func(w []int) { held(t, g, w, seen) })
		for range 5 {
			w := anyWord(r, g, 7)
			held(t, g, w, seen)
			if len(must(trim.Barren(g))) > 0 {
				seen["barren"]++
			}
		}
	}
	seenAll(t, seen, 300, "text", "dead", "dead at the end", "ambiguous", "barren")
}

// anyWord has at most so many numbers, now and then one that is no terminal's.
func anyWord(r *rand.Rand, g api.Grammar, most int) []int {
	var w []int
	for range r.Intn(most + 1) {
		w = append(w, r.Intn(len(g.Terms)))
	}
	if len(w) > 0 && r.Intn(8) == 0 {
		w[r.Intn(len(w))] = []int{-1, len(g.Terms), len(g.Terms) + 1, math.MaxInt, math.MinInt}[r.Intn(5)]
	}
	return w
}

// layered has no circular nonterminal, but many that may be nothing: productions without terminals have only higher ones.
func layered(r *rand.Rand, terms, nons, prods, right int) api.Grammar {
	g := anyGrammar(r, terms, nons, prods, right)
	g.Start = 0
	for n := range g.Nons {
		if r.Intn(2) == 0 {
			g.Prods = withProd(g.Prods, prod(n))
		}
	}
	g.Prods = slices.DeleteFunc(g.Prods, func(p api.Prod) bool {
		anyTerm := slices.ContainsFunc(p.Right, func(s api.Sym) bool { return s.Kind == api.SymTerm })
		return !anyTerm && slices.ContainsFunc(p.Right, func(s api.Sym) bool { return s.N <= p.Left })
	})
	g.Prods = withProd(g.Prods, prod(len(g.Nons)-1, term(0)))
	return g
}

// P23.1, P23.2: grammars of much that may be nothing, where ends come ahead of those that wait for them.
func TestEmptyParts(t *testing.T) {
	r := rand.New(rand.NewSource(232))
	seen := map[string]int{}
	for range 2000 {
		g := layered(r, 2, 5, 10, 3)
		for range 6 {
			held(t, g, anyWord(r, g, 6), seen)
		}
	}
	seenAll(t, seen, 500, "text", "dead", "dead at the end", "ambiguous")
}

// P23.1, P23.2: texts of more than a block of places.
func TestLongerTexts(t *testing.T) {
	for name, c := range map[string]struct {
		g api.Grammar
		w []int
	}{
		"sums":       {sums(), append(slices.Repeat([]int{1, 0}, 33), 1)},
		"sums, dead": {sums(), append(slices.Repeat([]int{1, 0}, 32), 0, 1)},
		"many":       {grammarOf(1, 1, 0, prod(0, non(0), non(0)), prod(0, term(0))), make([]int, 66)},
		"threes":     {grammarOf(1, 2, 1, prod(0, term(0)), prod(1, non(0), non(1), non(0)), prod(1, non(1), non(0)), prod(1)), make([]int, 66)},
		"mirrors":    {grammarOf(2, 1, 0, prod(0, term(0), non(0), term(0)), prod(0, term(1), non(0), term(1)), prod(0)), slices.Concat(slices.Repeat([]int{0, 1}, 17), slices.Repeat([]int{1, 0}, 17))},
		"right":      {grammarOf(1, 1, 0, prod(0, term(0), non(0)), prod(0, term(0))), make([]int, 130)},
	} {
		if chart, e := earley.Chart(c.g, c.w); e != api.OK || !slices.EqualFunc(chart, modelChart(c.g, c.w), slices.Equal) {
			t.Error("P23.1: Chart:", name, e)
		}
		want := modelOf(c.g, c.w).text()
		if b, e := earley.Accepts(c.g, c.w); e != api.OK || b != want {
			t.Error("P23.1: Accepts:", name, b, e)
		}
		if next, e := earley.Next(c.g, c.w); e != api.OK || !slices.Equal(next, modelNext(c.g, c.w)) {
			t.Error("P23.1: Next:", name, next, e)
		}
		heldOfTrees(t, c.g, c.w)
	}
}

// ask asks all calls, and tells which errors they answer, and whether all else is zero.
func ask(g api.Grammar, w []int) ([]api.Errno, bool) {
	chart, e1 := earley.Chart(g, w)
	accepts, e2 := earley.Accepts(g, w)
	next, e3 := earley.Next(g, w)
	at, dead, e4 := earley.Dead(g, w)
	count, e5 := earley.Count(g, w)
	tree, e6 := earley.Tree(g, w)
	zero := chart == nil && !accepts && next == nil && at == 0 && !dead && count == 0 && isZero(tree)
	return []api.Errno{e1, e2, e3, e4, e5, e6}, zero
}

// P23.1, P23.2: what is no grammar; its error goes ahead of all others.
func TestFaults(t *testing.T) {
	circular := func(change func(g *api.Grammar)) api.Grammar {
		g := grammarOf(1, 1, 0, prod(0, non(0)), prod(0, term(0)))
		change(&g)
		return g
	}
	for _, g := range []api.Grammar{
		{},
		circular(func(g *api.Grammar) { g.Terms = nil }),
		circular(func(g *api.Grammar) { g.Nons = nil }),
		circular(func(g *api.Grammar) { g.Terms = numbered("t", 65) }),
		circular(func(g *api.Grammar) { g.Terms[0] = "" }),
		circular(func(g *api.Grammar) { g.Start = 1 }),
		circular(func(g *api.Grammar) { g.Start = -1 }),
		circular(func(g *api.Grammar) { g.Prods = nil }),
		circular(func(g *api.Grammar) { g.Prods[1].Left = 7 }),
		circular(func(g *api.Grammar) { g.Prods[1].Right[0].N = 1 }),
		circular(func(g *api.Grammar) { g.Prods[1].Right[0].N = math.MinInt }),
		circular(func(g *api.Grammar) { g.Prods[1].Right[0].Kind = 3 }),
		circular(func(g *api.Grammar) { g.Prods[1].Right = slices.Repeat(syms(term(0)), 17) }),
		circular(func(g *api.Grammar) { g.Prods[1].Right = syms(non(0)) }),
		circular(func(g *api.Grammar) { g.Prods[1].Prec = 1 }),
		circular(func(g *api.Grammar) { g.Levels = make([]api.Level, 1) }),
	} {
		want, _ := grammar.Check(g)
		if want == api.OK {
			t.Fatal("no fault:", g)
		}
		for _, w := range [][]int{nil, {0}, {9}} {
			if got, zero := ask(g, w); !zero || !slices.Equal(got, slices.Repeat([]api.Errno{want}, 6)) {
				t.Error(g, got, zero, want)
			}
		}
	}
}

// P23.2: circular nonterminals, also those that start does not reach, go ahead of there being none; P23.1's calls take them.
func TestCircular(t *testing.T) {
	for _, g := range []api.Grammar{
		grammarOf(1, 1, 0, prod(0, non(0)), prod(0, term(0))),
		grammarOf(1, 2, 0, prod(0, term(0)), prod(1, non(1))),
		grammarOf(1, 2, 0, prod(0, term(0)), prod(1, non(0), non(1)), prod(0)),
		grammarOf(1, 3, 0, prod(0, non(1), non(2)), prod(1, non(2), non(0)), prod(2), prod(0, term(0))),
	} {
		for _, w := range [][]int{{0}, {0, 0, 0, 0, 0, 1}} {
			if n, e := earley.Count(g, w); n != 0 || e != api.ErrCycle {
				t.Error("Count:", g.Prods, n, e)
			}
			if x, e := earley.Tree(g, w); !isZero(x) || e != api.ErrCycle {
				t.Error("Tree:", g.Prods, x, e)
			}
			want := len(w) == 1
			if b, e := earley.Accepts(g, w); e != api.OK || b != want {
				t.Error("Accepts:", g.Prods, w, b, e)
			}
			if _, dead, e := earley.Dead(g, w); e != api.OK || dead == want {
				t.Error("Dead:", g.Prods, w, dead, e)
			}
		}
	}
}

// P23.1, P23.2: what is no terminal's number ends all; a text of none is one, however it is written.
func TestNumbers(t *testing.T) {
	g := grammarOf(2, 1, 0, prod(0, term(0), non(0)), prod(0))
	for _, n := range []int{-1, 2, 3, 64, math.MaxInt, math.MinInt} {
		w := []int{0, 0, n, 0}
		c, e := earley.Chart(g, w)
		if e != api.OK || len(c) != 5 || len(c[2]) == 0 || len(c[3])+len(c[4]) != 0 {
			t.Error("Chart:", n, c, e)
		}
		if b, e := earley.Accepts(g, w); b || e != api.OK {
			t.Error("Accepts:", n, b, e)
		}
		if l, e := earley.Next(g, w); len(l) != 0 || e != api.OK {
			t.Error("Next:", n, l, e)
		}
		if at, dead, e := earley.Dead(g, w); at != 2 || !dead || e != api.OK {
			t.Error("Dead:", n, at, dead, e)
		}
		if c, e := earley.Count(g, w); c != 0 || e != api.OK {
			t.Error("Count:", n, c, e)
		}
		if x, e := earley.Tree(g, w); !isZero(x) || e != api.ErrNone {
			t.Error("Tree:", n, x, e)
		}
	}
	for _, w := range [][]int{nil, {}} {
		if c, e := earley.Chart(g, w); e != api.OK || len(c) != 1 || !slices.Equal(c[0], []earley.State{{-1, 0, 0}, {-1, 1, 0}, {0, 0, 0}, {1, 0, 0}}) {
			t.Error("Chart of nothing:", c, e)
		}
		if x, e := earley.Tree(g, w); e != api.OK || !trees.Same(x, node(1)) {
			t.Error("Tree of nothing:", x, e)
		}
	}
}

// P23.1: barren nonterminals begin and stand in sets, but no text has them.
func TestBarren(t *testing.T) {
	// n0: t0 n1 | t0 t0; n1: t1 n1
	g := grammarOf(2, 2, 0, prod(0, term(0), non(1)), prod(0, term(0), term(0)), prod(1, term(1), non(1)))
	if c, e := earley.Chart(g, []int{0, 1}); e != api.OK || !slices.EqualFunc(c, [][]earley.State{
		{{-1, 0, 0}, {0, 0, 0}, {1, 0, 0}}, {{0, 1, 0}, {1, 1, 0}, {2, 0, 1}}, {{2, 0, 2}, {2, 1, 1}},
	}, slices.Equal) {
		t.Error("Chart:", c, e)
	}
	if l, e := earley.Next(g, []int{0}); e != api.OK || !slices.Equal(l, []int{0}) {
		t.Error("Next:", l, e)
	}
	if at, dead, e := earley.Dead(g, []int{0, 1}); e != api.OK || at != 1 || !dead {
		t.Error("Dead:", at, dead, e)
	}
	g.Start = 1
	for _, w := range [][]int{nil, {1}, {1, 1}, {0, 0}} {
		if l, e := earley.Next(g, w); e != api.OK || len(l) != 0 {
			t.Error("Next of a barren start:", w, l, e)
		}
		if at, dead, e := earley.Dead(g, w); e != api.OK || at != 0 || !dead {
			t.Error("Dead of a barren start:", w, at, dead, e)
		}
		if n, e := earley.Count(g, w); e != api.OK || n != 0 {
			t.Error("Count of a barren start:", w, n, e)
		}
	}
}

// P23.2: counts stop at 4097, and not ahead of it.
func TestManyTrees(t *testing.T) {
	// twice: each t0 is one in two ways; n times in a row, and, if it is asked for, once more otherwise.
	twice := func(n int, more bool) api.Grammar {
		g := grammarOf(1, 3, 0, prod(0, slices.Repeat(syms(non(1)), n)...), prod(1, term(0)), prod(1, non(2)), prod(2, term(0)))
		if more {
			g.Prods = append(g.Prods, prod(0, slices.Repeat(syms(term(0)), n)...))
		}
		return g
	}
	for _, c := range []struct {
		n    int
		more bool
		want int
	}{{1, false, 2}, {11, true, 2049}, {12, false, 4096}, {12, true, 4097}, {13, false, 4097}, {16, true, 4097}} {
		if n, e := earley.Count(twice(c.n, c.more), make([]int, c.n)); e != api.OK || n != c.want {
			t.Error(c, n, e)
		}
	}
}
