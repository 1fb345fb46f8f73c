package canon_test

import (
	"math"
	"math/rand"
	"slices"
	"testing"

	"gantry/api"
	"gantry/canon"
	"gantry/grammar"
	"gantry/lrzero"
)

// pairs is S → C C, C → c C, C → d.
func pairs() api.Grammar {
	return api.Grammar{Terms: []string{"c", "d"}, Nons: []string{"S", "C"}, Prods: []api.Prod{
		prod(0, non(1), non(1)), prod(1, term(0), non(1)), prod(1, term(1)),
	}}
}

// crossed is S → a A d, S → b B d, S → a B e, S → b A e, A → c, B → c.
func crossed() api.Grammar {
	a, b, c, d, e := term(0), term(1), term(2), term(3), term(4)
	return api.Grammar{Terms: []string{"a", "b", "c", "d", "e"}, Nons: []string{"S", "A", "B"}, Prods: []api.Prod{
		prod(0, a, non(1), d), prod(0, b, non(2), d), prod(0, a, non(2), e), prod(0, b, non(1), e), prod(1, c), prod(2, c),
	}}
}

// P12.1 and P12.3: the chapter's first example, state by state.
func TestPairs(t *testing.T) {
	g := pairs()
	knuth := api.Automaton{
		States: [][]api.Item{
			list(item(-1, 0, 2), item(0, 0, 2), item(1, 0, 0, 1), item(2, 0, 0, 1)),
			list(item(1, 0, 0, 1), item(1, 1, 0, 1), item(2, 0, 0, 1)),
			list(item(2, 1, 0, 1)),
			list(item(-1, 1, 2)),
			list(item(0, 1, 2), item(1, 0, 2), item(2, 0, 2)),
			list(item(1, 2, 0, 1)),
			list(item(1, 0, 2), item(1, 1, 2), item(2, 0, 2)),
			list(item(2, 1, 2)),
			list(item(0, 2, 2)),
			list(item(1, 2, 2)),
		},
		Edges: []api.Edge{
			edge(0, term(0), 1), edge(0, term(1), 2), edge(0, non(0), 3), edge(0, non(1), 4),
			edge(1, term(0), 1), edge(1, term(1), 2), edge(1, non(1), 5),
			edge(4, term(0), 6), edge(4, term(1), 7), edge(4, non(1), 8),
			edge(6, term(0), 6), edge(6, term(1), 7), edge(6, non(1), 9),
		},
	}
	merged := api.Automaton{
		States: [][]api.Item{
			knuth.States[0],
			list(item(1, 0, 0, 1, 2), item(1, 1, 0, 1, 2), item(2, 0, 0, 1, 2)),
			list(item(2, 1, 0, 1, 2)),
			knuth.States[3],
			knuth.States[4],
			list(item(1, 2, 0, 1, 2)),
			knuth.States[8],
		},
		Edges: []api.Edge{
			edge(0, term(0), 1), edge(0, term(1), 2), edge(0, non(0), 3), edge(0, non(1), 4),
			edge(1, term(0), 1), edge(1, term(1), 2), edge(1, non(1), 5),
			edge(4, term(0), 1), edge(4, term(1), 2), edge(4, non(1), 6),
		},
	}
	if a, e := canon.Canonical(g); e != api.OK || !sameAutomaton(a, knuth) {
		t.Error("Canonical:", a, e)
	}
	if a, e := canon.Merge(g, knuth); e != api.OK || !sameAutomaton(a, merged) {
		t.Error("Merge:", a, e)
	}
	if a, e := canon.Merged(g); e != api.OK || !sameAutomaton(a, merged) {
		t.Error("Merged:", a, e)
	}
	if e, at := canon.Check(g, knuth); e != api.OK || at != 23 {
		t.Error("Check:", e, at)
	}
	for _, a := range []api.Automaton{knuth, merged} {
		if l, e := canon.Conflicts(g, a); e != api.OK || len(l) != 0 {
			t.Error("Conflicts:", l, e)
		}
	}
}

// P12.3: the chapter's other examples, and conflicts with acceptance.
func TestConflictsOfExamples(t *testing.T) {
	for _, c := range []struct {
		about         string
		g             api.Grammar
		knuth, merged []api.Conflict
	}{
		{"LR(1), not LALR(1)", crossed(), nil, []api.Conflict{
			{State: 4, Look: 3, Shift: -1, Reduce: []int{4, 5}}, {State: 4, Look: 4, Shift: -1, Reduce: []int{4, 5}},
		}},
		{"S : S S | a", grammarOf(1, 1, 0, prod(0, non(0), non(0)), prod(0, term(0))),
			[]api.Conflict{{State: 3, Look: 0, Shift: 1, Reduce: []int{0}}},
			[]api.Conflict{{State: 3, Look: 0, Shift: 1, Reduce: []int{0}}}},
		{"S : S | a: accept or reduce", grammarOf(1, 1, 0, prod(0, non(0)), prod(0, term(0))),
			[]api.Conflict{{State: 2, Look: 1, Shift: -1, Reduce: []int{-1, 0}}},
			[]api.Conflict{{State: 2, Look: 1, Shift: -1, Reduce: []int{-1, 0}}}},
		{"S : A | B | a; A : ; B : : of the empty word", grammarOf(1, 3, 0, prod(0, non(1)), prod(0, non(2)), prod(0, term(0)), prod(1), prod(2)),
			[]api.Conflict{{State: 0, Look: 1, Shift: -1, Reduce: []int{3, 4}}},
			[]api.Conflict{{State: 0, Look: 1, Shift: -1, Reduce: []int{3, 4}}}},
		{"S : A a | B a | a; A : ; B : : all at one time", grammarOf(1, 3, 0, prod(0, non(1), term(0)), prod(0, non(2), term(0)), prod(0, term(0)), prod(1), prod(2)),
			[]api.Conflict{{State: 0, Look: 0, Shift: 1, Reduce: []int{3, 4}}},
			[]api.Conflict{{State: 0, Look: 0, Shift: 1, Reduce: []int{3, 4}}}},
	} {
		a, m := must(canon.Canonical(c.g)), must(canon.Merged(c.g))
		if l, e := canon.Conflicts(c.g, a); e != api.OK || !sameConflicts(l, c.knuth) {
			t.Error(c.about, "of Knuth's:", l, e)
		}
		if l, e := canon.Conflicts(c.g, m); e != api.OK || !sameConflicts(l, c.merged) {
			t.Error(c.about, "of the merged one:", l, e)
		}
	}
}

// heldOfGrammar holds what is made of a grammar against the models.
func heldOfGrammar(t *testing.T, g api.Grammar) {
	t.Helper()
	want := modelCanonical(g)
	a, e := canon.Canonical(g)
	if e != api.OK || !sameAutomaton(a, want) {
		t.Fatalf("Canonical(%v): %v, %v, want %v", g, a, e, want)
	}
	merged := must(modelMerge(g, want))
	if m, e := canon.Merged(g); e != api.OK || !sameAutomaton(m, merged) {
		t.Fatalf("Merged(%v): %v, %v, want %v", g, m, e, merged)
	}
}

// P12.1: every small grammar.
func TestSmallGrammars(t *testing.T) {
	eachSmall(func(g api.Grammar) { heldOfGrammar(t, g) })
}

// P12.1: many greater grammars.
func TestGreaterGrammars(t *testing.T) {
	r := rand.New(rand.NewSource(121))
	for range 300 {
		if g := anyGrammar(r, 4, 5, 12, 4); len(must(canon.Canonical(g)).States) < 150 {
			heldOfGrammar(t, g)
		}
	}
}

func FuzzGrammars(f *testing.F) {
	f.Add([]byte{0, 5, 4, 255, 1, 0, 255, 2, 1, 255, 1, 255}, int64(1))
	f.Add([]byte{1, 3, 0, 255, 0, 3, 4, 255, 2, 5, 5, 1}, int64(2))
	f.Fuzz(func(t *testing.T, b []byte, seed int64) {
		g := grammarOf(2, 3, 0)
		for i := 0; i < len(b) && i < 24; i++ {
			p := prod(int(b[i] % 3))
			for i++; i < len(b) && b[i] < 200 && len(p.Right) < 4; i++ {
				if n := int(b[i] % 5); n < 2 {
					p.Right = append(p.Right, term(n))
				} else {
					p.Right = append(p.Right, non(n-2))
				}
			}
			g.Prods = append(g.Prods, p)
		}
		if e, _ := grammar.Check(g); e != api.OK {
			return
		}
		a, e := canon.Canonical(g)
		if e != api.OK || len(a.States) > 100 {
			return
		}
		heldOfGrammar(t, g)
		heldOfAutomaton(t, g, turned(rand.New(rand.NewSource(seed)), g, a), map[string]int{})
	})
}

// P12.1 to P12.3: a grammar that may not be is told ahead of all else, with place 0.
func TestWrongGrammars(t *testing.T) {
	good := must(canon.Canonical(pairs()))
	for _, do := range []func(g *api.Grammar){
		func(g *api.Grammar) { *g = api.Grammar{} },
		func(g *api.Grammar) { g.Nons = nil },
		func(g *api.Grammar) { g.Terms[1] = "S" },
		func(g *api.Grammar) { g.Start = math.MinInt },
		func(g *api.Grammar) { g.Start = 2 },
		func(g *api.Grammar) { g.Prods = nil },
		func(g *api.Grammar) { g.Prods[2].Left = -1 },
		func(g *api.Grammar) { g.Prods[2].Right = syms(term(2)) },
		func(g *api.Grammar) { g.Prods[1].Right = slices.Repeat(syms(term(0)), 17) },
		func(g *api.Grammar) { g.Prods[2] = g.Prods[1] },
		func(g *api.Grammar) { g.Prods[2].Prec = 9 },
		func(g *api.Grammar) { g.Levels = []api.Level{{Assoc: api.AssocLeft, Terms: []int{1}}, {}} },
	} {
		g := pairs()
		do(&g)
		want, _ := grammar.Check(g)
		if want == api.OK {
			t.Fatal("a grammar that may be:", g)
		}
		if a, e := canon.Canonical(g); e != want || !isEmpty(a) {
			t.Errorf("Canonical(%v): %v, %v", g, a, e)
		}
		if a, e := canon.Merged(g); e != want || !isEmpty(a) {
			t.Errorf("Merged(%v): %v, %v", g, a, e)
		}
		for _, a := range []api.Automaton{good, {}, {States: [][]api.Item{list(item(9, 9))}, Edges: []api.Edge{edge(7, term(7), 7)}}} {
			if m, e := canon.Merge(g, a); e != want || !isEmpty(m) {
				t.Errorf("Merge(%v): %v, %v", g, m, e)
			}
			if e, at := canon.Check(g, a); e != want || at != 0 {
				t.Errorf("Check(%v): %v, %v", g, e, at)
			}
			if l, e := canon.Conflicts(g, a); e != want || len(l) != 0 {
				t.Errorf("Conflicts(%v): %v, %v", g, l, e)
			}
		}
	}
}

// P12.1: barren nonterminals, those without productions, and lookaheads that are none.
func TestEmptyLookaheads(t *testing.T) {
	g := grammarOf(2, 4, 0, prod(0, non(1), non(2)), prod(1, non(3)), prod(1), prod(2, non(2), term(0)))
	want := list(item(-1, 0, 2), item(0, 0, 2), item(1, 0), item(2, 0))
	if a := must(canon.Canonical(g)); !same(a.States[0], want) {
		t.Error("nothing comes behind what is barren:", a.States[0])
	}
	heldOfGrammar(t, g)
	if a := must(canon.Merged(grammarOf(1, 2, 0, prod(1, term(0))))); len(a.States) != 2 || len(a.Edges) != 1 {
		t.Error("a start without productions:", a)
	}
}

// P12.1 and P12.2: the last production is not taken for start's own, nor the last lookahead for the first one.
func TestLastNumbers(t *testing.T) {
	g := grammarOf(64, 3, 0, prod(0, term(3), term(3), non(1)), prod(0, term(3), term(4), non(1), term(0)), prod(1, term(63)), prod(2, term(63)))
	for n := range 63 {
		g.Prods = append(g.Prods, prod(0, term(n), non(1), term(n)), prod(0, term(n), non(2), term(63-n)))
	}
	for n := range 125 {
		g.Prods = append(g.Prods, prod(0, term(n%63), term(n/63)))
	}
	g.Prods = append(g.Prods, prod(0, term(63)))
	if e, at := grammar.Check(g); e != api.OK || len(g.Prods) != 256 {
		t.Fatal(e, at)
	}
	heldOfGrammar(t, g)
}

// P12.1: one item with three lookaheads is not taken for two with none, whose numbers are the same, nor the other way round.
func TestNumbersInARow(t *testing.T) {
	x, y := term(4), term(5)
	heldOfGrammar(t, grammarOf(6, 4, 0,
		prod(1, x), prod(2, y, y, x), prod(0, y, y, non(1), non(3)), prod(0, non(2), non(3)),
		prod(0, non(1), term(0)), prod(0, non(1), term(2)), prod(0, non(1), term(3)),
	))
}

// rows has right sides of terminals alone, by which it has just so many states (from 3 on): state 0, that behind start, and one for each beginning of a right side.
func rows(states int) api.Grammar {
	g := grammarOf(64, 1, 0)
	for left := states - 2; left > 0; {
		n := len(g.Prods)
		known := 0
		if n >= 64 { // the first terminal stood ahead of another row
			known = 1
		}
		length := min(16, known+left)
		row := slices.Repeat(syms(term(n/64)), length)
		row[0] = term(n % 64)
		g.Prods = append(g.Prods, prod(0, row...))
		left -= length - known
	}
	return g
}

// contexts has a part of many states, and that many terminals behind which it comes, each with another lookahead: S → t A t for each, A → u and nine rows of sixteen.
func contexts(n int) api.Grammar {
	g := grammarOf(64, 2, 0)
	for i := range n {
		g.Prods = append(g.Prods, prod(0, term(i), non(1), term(i)))
	}
	for i := range 9 {
		row := slices.Repeat(syms(term(54+i)), 16)
		g.Prods = append(g.Prods, prod(1, row...))
	}
	g.Prods = append(g.Prods, prod(1, term(63)))
	return g
}

// P12.1: as many states as there may be, and one more.
func TestMaxStates(t *testing.T) {
	for _, n := range []int{3, 4, 18, 19, 2047, 2048} {
		g := rows(n)
		a, e := canon.Canonical(g)
		if e != api.OK || len(a.States) != n || len(a.Edges) != n-1 {
			t.Fatal("Canonical:", n, len(a.States), len(a.Edges), e)
		}
		if m, e := canon.Merged(g); e != api.OK || !sameAutomaton(m, a) {
			t.Fatal("Merged:", n, len(m.States), e)
		}
		if e, at := canon.Check(g, a); e != api.OK || at != 2*n-1 {
			t.Fatal("Check:", n, e, at)
		}
	}
	for _, n := range []int{2049, 2050, 3000} {
		if a, e := canon.Canonical(rows(n)); e != api.ErrStates || !isEmpty(a) {
			t.Fatal("Canonical:", n, len(a.States), e)
		}
		if a, e := canon.Merged(rows(n)); e != api.ErrStates || !isEmpty(a) {
			t.Fatal("Merged:", n, len(a.States), e)
		}
	}
}

// P12.1: it is the canonical automaton's states that are counted, be the merged one ever so small.
func TestMaxStatesOfMerged(t *testing.T) {
	for _, c := range []struct{ contexts, knuth, merged int }{{1, 150, 150}, {2, 298, 153}, {13, 13*148 + 2, 147 + 13*3}, {14, 0, 0}} {
		g := contexts(c.contexts)
		zero := must(lrzero.Build(g))
		want := api.OK
		if c.knuth == 0 {
			want = api.ErrStates
		}
		if a, e := canon.Canonical(g); e != want || len(a.States) != c.knuth {
			t.Error("Canonical:", c, len(a.States), e)
		}
		m, e := canon.Merged(g)
		if e != want || len(m.States) != c.merged || e == api.OK && len(m.States) != len(zero.States) {
			t.Error("Merged:", c, len(m.States), e)
		}
		if len(zero.States) > 200 {
			t.Error("without lookaheads:", c, len(zero.States))
		}
	}
}

// remembers has an automaton that must know which of the last 62 terminals were 0: nonterminal n may come just where the terminal n places back was.
func remembers() api.Grammar {
	g := grammarOf(2, 64, 0, prod(0, term(0), non(0)), prod(0, term(1), non(0)), prod(0, term(0), non(1)))
	for n := 1; n < 63; n++ {
		g.Prods = append(g.Prods, prod(n, term(0), non(n+1)), prod(n, term(1), non(n+1)))
	}
	g.Prods = append(g.Prods, prod(63, term(1)))
	return g
}

// P12.1: an automaton with more states than could ever be gone through.
func TestVeryManyStates(t *testing.T) {
	if a, e := canon.Canonical(remembers()); e != api.ErrStates || !isEmpty(a) {
		t.Error(len(a.States), e)
	}
	if a, e := canon.Merged(remembers()); e != api.ErrStates || !isEmpty(a) {
		t.Error(len(a.States), e)
	}
}

// P12.3: Next and Walk of automata that no call made; edges in any order, symbols of any kind, targets that are no states.
func TestNextAndWalk(t *testing.T) {
	x, y, odd := term(0), non(0), api.Sym{Kind: -7, N: math.MinInt}
	a := api.Automaton{States: make([][]api.Item, 3), Edges: []api.Edge{
		edge(2, x, 0), edge(0, y, 2), edge(0, x, 1), edge(0, x, 2), edge(1, odd, 1), edge(1, odd, 0), edge(1, y, -1), edge(1, y, 2), edge(2, y, 99), edge(99, x, 1), edge(1, x, -5),
	}}
	for _, c := range []struct {
		state int
		s     api.Sym
		want  int
	}{
		{0, x, 1}, {0, y, 2}, {0, odd, -1}, {1, odd, 1}, {1, y, -1}, {2, x, 0}, {2, y, 99}, {99, x, 1}, {99, y, -1}, {1, x, -5}, {-5, x, -1}, {math.MinInt, x, -1}, {math.MaxInt, odd, -1}, {0, api.Sym{}, -1},
	} {
		if got := canon.Next(a, c.state, c.s); got != c.want {
			t.Error("Next:", c, got)
		}
	}
	for _, c := range []struct {
		l        []api.Sym
		to, gone int
	}{
		{nil, 0, 0}, {syms(odd), 0, 0}, {syms(x), 1, 1}, {syms(x, odd, odd, odd), 1, 4}, {syms(x, y), 1, 1}, {syms(y, x, y, x, x, y, x), 1, 5},
		{syms(y, y), 99, 2}, {syms(y, y, x), 1, 3}, {syms(y, y, y), 99, 2}, {syms(y, odd, x), 2, 1}, {syms(api.Sym{}, x), 0, 0},
	} {
		if to, gone := canon.Walk(a, c.l); to != c.to || gone != c.gone {
			t.Error("Walk:", c, to, gone)
		}
	}
	for _, s := range syms(x, y, odd, api.Sym{}) {
		if to, gone := canon.Walk(api.Automaton{}, syms(s)); to != 0 || gone != 0 || canon.Next(api.Automaton{}, 0, s) != -1 {
			t.Error("of nothing:", s, to, gone)
		}
	}
}

// P12.3: long lists, and many edges that do not rise.
func TestLongWalk(t *testing.T) {
	const n = 1 << 16
	a := api.Automaton{States: make([][]api.Item, n)}
	for from := n - 1; from >= 0; from-- {
		a.Edges = append(a.Edges, edge(from, non(0), (from+1)%n), edge(from, term(1), from), edge(from, non(0), from))
	}
	l := append(slices.Repeat(syms(non(0)), 4*n+5), term(1), term(0), term(1))
	if to, gone := canon.Walk(a, l); to != 5 || gone != 4*n+6 {
		t.Error("Walk:", to, gone)
	}
	a.Edges = slices.DeleteFunc(a.Edges, func(x api.Edge) bool { return x.Sym == non(0) && x.From == x.To })
	o, was, e := canon.Order(a)
	if e != api.OK || len(o.States) != n || len(o.Edges) != 2*n || len(was) != n || was[n-1] != n-1 {
		t.Error("Order:", len(o.States), len(o.Edges), len(was), e)
	}
	if to, gone := canon.Walk(o, l); to != 5 || gone != 4*n+6 {
		t.Error("Walk of edges in order:", to, gone)
	}
}
