package lrzero_test

import (
	"math"
	"math/rand"
	"slices"
	"testing"

	"gantry/api"
	"gantry/grammar"
	"gantry/lrzero"
)

// nest is S → ( S ), S → x.
func nest() api.Grammar {
	return api.Grammar{Terms: []string{"'('", "')'", "x"}, Nons: []string{"S"}, Prods: []api.Prod{prod(0, term(0), non(0), term(1)), prod(0, term(2))}}
}

// P11.1 to P11.4: the chapter's examples, and what stands beside them.
func TestExamples(t *testing.T) {
	g := nest()
	a := must(lrzero.Build(g))
	want := plain{
		states: [][]api.Core{
			list(core(-1, 0), core(0, 0), core(1, 0)),
			list(core(0, 0), core(0, 1), core(1, 0)),
			list(core(1, 1)),
			list(core(-1, 1)),
			list(core(0, 2)),
			list(core(0, 3)),
		},
		edges: []api.Edge{
			edge(0, term(0), 1), edge(0, term(2), 2), edge(0, non(0), 3),
			edge(1, term(0), 1), edge(1, term(2), 2), edge(1, non(0), 4),
			edge(4, term(1), 5),
		},
	}
	if m, bare := plainOf(a); !bare || !samePlain(m, want) {
		t.Error("Build:", a)
	}
	for _, c := range []struct {
		l    []api.Sym
		want bool
	}{
		{nil, true},
		{syms(term(0), term(0), non(0)), true},
		{syms(term(0), term(1)), false},
		{syms(non(0)), true},
		{syms(non(0), term(1)), false},
		{syms(term(0), non(0), term(1)), true},
		{syms(term(0), non(0), term(1), term(1)), false},
		{syms(term(2), term(2)), false},
	} {
		if got, e := lrzero.Viable(g, c.l); e != api.OK || got != c.want {
			t.Error("Viable:", c.l, got, e)
		}
		if _, ok := lrzero.Walk(a, 0, c.l); ok != c.want {
			t.Error("Walk:", c.l, ok)
		}
	}
	if way, ok := lrzero.Access(a, 5); !ok || !slices.Equal(way, syms(term(0), non(0), term(1))) {
		t.Error("Access:", way, ok)
	}
	if s, ok := lrzero.Incoming(a, 1); !ok || s != term(0) {
		t.Error("Incoming:", s, ok)
	}
	if l := must(lrzero.Goto(g, list(core(-1, 0)), term(0))); !slices.Equal(l, want.states[1]) {
		t.Error("Goto closes first what it is given:", l)
	}
}

// heldOfItems asks the calls that have items.
func heldOfItems(t *testing.T, g api.Grammar, l []api.Core) {
	t.Helper()
	closed := modelClosure(g, l)
	if got, e := lrzero.Closure(g, l); e != api.OK || !slices.Equal(got, closed) {
		t.Fatalf("Closure(%v, %v): %v, %v, want %v", g, l, got, e, closed)
	}
	for _, s := range symbolsOf(g) {
		if got, e := lrzero.Goto(g, l, s); e != api.OK || !slices.Equal(got, modelGoto(g, closed, s)) {
			t.Fatalf("Goto(%v, %v, %v): %v, %v, want %v", g, l, s, got, e, modelGoto(g, closed, s))
		}
	}
}

// heldOfAutomaton holds Build against the model.
func heldOfAutomaton(t *testing.T, g api.Grammar) api.Automaton {
	t.Helper()
	a, e := lrzero.Build(g)
	if m, bare := plainOf(a); e != api.OK || !bare || !samePlain(m, modelBuild(g)) {
		t.Fatalf("Build(%v): %v, %v, want %v", g, a, e, modelBuild(g))
	}
	return a
}

// P11.1 and P11.2: every small grammar, each item by itself, and all items.
func TestSmallGrammars(t *testing.T) {
	eachSmall(func(g api.Grammar) {
		heldOfAutomaton(t, g)
		heldOfItems(t, g, nil)
		heldOfItems(t, g, coresOf(g))
		for _, i := range coresOf(g) {
			heldOfItems(t, g, list(i))
		}
	})
}

// P11.1 and P11.2: many greater grammars, and items in any order, some twice.
func TestGreaterGrammars(t *testing.T) {
	r := rand.New(rand.NewSource(111))
	for range 1500 {
		g := anyGrammar(r, 4, 5, 12, 5)
		heldOfAutomaton(t, g)
		for range 4 {
			heldOfItems(t, g, anyItems(r, g, 6))
		}
	}
}

func FuzzGrammars(f *testing.F) {
	f.Add([]byte{0, 5, 4, 255, 1, 0, 255, 2, 1, 255, 1, 255}, int64(1))
	f.Add([]byte{1, 3, 0, 255, 0, 3, 4, 255, 2, 5, 5, 1}, int64(2))
	f.Fuzz(func(t *testing.T, b []byte, seed int64) {
		g := grammarOf(2, 3, 0)
		for i := 0; i < len(b) && i < 40; i++ {
			p := prod(int(b[i] % 3))
			for i++; i < len(b) && b[i] < 200 && len(p.Right) < 5; i++ {
				if n := int(b[i] % 5); n < 2 {
					p.Right = append(p.Right, term(n))
				} else {
					p.Right = append(p.Right, non(n-2))
				}
			}
			g.Prods = append(g.Prods, p)
		}
		if e, _ := grammar.Check(g); e == api.OK {
			heldOfItems(t, g, anyItems(rand.New(rand.NewSource(seed)), g, 4))
			heldOfAutomaton(t, g)
			heldOfLists(t, g, 3)
		}
	})
}

// P11.1: every item that there is is taken, and every other one refused, wherever it stands; that goes ahead of a wrong symbol.
func TestWrongItems(t *testing.T) {
	g := nest()
	g.Prods = append(g.Prods, prod(0))
	numbers := []int{math.MinInt, -2, -1, 0, 1, 2, 3, 4, 16, 17, 256, math.MaxInt}
	for _, p := range numbers {
		for _, dot := range numbers {
			for _, l := range [][]api.Core{list(core(p, dot)), list(core(0, 1), core(p, dot)), list(core(p, dot), core(9, 9)), list(core(-1, 1), core(p, dot), core(0, 0))} {
				want := api.OK
				if !within(l, coresOf(g)) {
					want = api.ErrItem
				}
				if got, e := lrzero.Closure(g, l); e != want || (len(got) == 0) != (e != api.OK) {
					t.Fatalf("Closure of %v: %v, %v", l, got, e)
				}
				if got, e := lrzero.Goto(g, l, term(2)); e != want || e != api.OK && len(got) != 0 {
					t.Fatalf("Goto of %v: %v, %v", l, got, e)
				}
				if got, e := lrzero.Goto(g, l, term(3)); e != max(want, api.ErrSymbol) || len(got) != 0 {
					t.Fatalf("Goto of %v by no symbol: %v, %v", l, got, e)
				}
			}
		}
	}
}

// strange are symbols that nest has not, the end marker too.
func strange() []api.Sym {
	return syms(term(3), term(-1), non(1), non(-1), api.Sym{}, api.Sym{N: 2}, api.Sym{Kind: 3}, api.Sym{Kind: -1}, term(math.MinInt), term(math.MaxInt), non(math.MinInt), non(math.MaxInt), api.Sym{Kind: math.MaxInt})
}

// P11.1 and P11.4: Goto refuses what is no symbol; to Viable it is one that never comes, behind an item whose dot stands at the end, too.
func TestWrongSymbols(t *testing.T) {
	g := nest()
	for _, s := range strange() {
		for _, l := range [][]api.Core{nil, list(core(-1, 0)), list(core(1, 1)), coresOf(g)} {
			if got, e := lrzero.Goto(g, l, s); e != api.ErrSymbol || len(got) != 0 {
				t.Errorf("Goto of %v by %v: %v, %v", l, s, got, e)
			}
		}
		for _, l := range [][]api.Sym{nil, syms(non(0)), syms(term(2)), syms(term(0)), syms(term(0), non(0), term(1))} {
			if got, e := lrzero.Viable(g, append(l, s)); e != api.OK || got {
				t.Errorf("Viable of %v and %v: %v, %v", l, s, got, e)
			}
		}
		if got, e := lrzero.Viable(g, syms(s, non(0))); e != api.OK || got {
			t.Errorf("Viable of %v and S: %v, %v", s, got, e)
		}
	}
	if got, e := lrzero.Goto(g, list(core(1, 1)), term(0)); e != api.OK || len(got) != 0 {
		t.Error("Goto of an item whose dot stands at the end:", got, e)
	}
}

// P11.1, P11.2 and P11.4: a grammar that may not be is told ahead of all else.
func TestWrongGrammars(t *testing.T) {
	for _, do := range []func(g *api.Grammar){
		func(g *api.Grammar) { *g = api.Grammar{} },
		func(g *api.Grammar) { g.Nons = nil },
		func(g *api.Grammar) { g.Terms[1] = "S" },
		func(g *api.Grammar) { g.Start = 7 },
		func(g *api.Grammar) { g.Start = math.MinInt },
		func(g *api.Grammar) { g.Prods = nil },
		func(g *api.Grammar) { g.Prods[1].Left = -1 },
		func(g *api.Grammar) { g.Prods[1].Right = syms(term(3)) },
		func(g *api.Grammar) { g.Prods[1].Right = slices.Repeat(syms(term(0)), 17) },
		func(g *api.Grammar) { g.Prods[1] = g.Prods[0] },
		func(g *api.Grammar) { g.Prods[1].Prec = 9 },
		func(g *api.Grammar) { g.Levels = []api.Level{{}} },
	} {
		g := nest()
		do(&g)
		want, _ := grammar.Check(g)
		if want == api.OK {
			t.Fatal("a grammar that may be:", g)
		}
		for _, l := range [][]api.Core{nil, list(core(-1, 0)), list(core(9, 0)), list(core(math.MinInt, math.MaxInt))} {
			if got, e := lrzero.Closure(g, l); e != want || len(got) != 0 {
				t.Errorf("Closure(%v, %v): %v, %v", g, l, got, e)
			}
			if got, e := lrzero.Goto(g, l, api.Sym{}); e != want || len(got) != 0 {
				t.Errorf("Goto(%v, %v): %v, %v", g, l, got, e)
			}
		}
		if a, e := lrzero.Build(g); e != want || len(a.States)+len(a.Edges) != 0 {
			t.Errorf("Build(%v): %v, %v", g, a, e)
		}
		for _, l := range [][]api.Sym{nil, syms(non(0)), syms(api.Sym{})} {
			if got, e := lrzero.Viable(g, l); e != want || got {
				t.Errorf("Viable(%v, %v): %v, %v", g, l, got, e)
			}
		}
	}
}

// P11.1: barren nonterminals, those without a production, and chains of them.
func TestClosureEdges(t *testing.T) {
	g := grammarOf(2, 4, 0, prod(0, non(1), non(2)), prod(1, non(3)), prod(2), prod(2, non(2), term(0)))
	for _, c := range []struct{ l, want []api.Core }{
		{nil, nil},
		{list(core(-1, 1)), list(core(-1, 1))},
		{list(core(-1, 0)), list(core(-1, 0), core(0, 0), core(1, 0))},
		{list(core(0, 1)), list(core(0, 1), core(2, 0), core(3, 0))},
		{list(core(1, 0)), list(core(1, 0))},
		{list(core(3, 2), core(2, 0), core(3, 2)), list(core(2, 0), core(3, 2))},
		{list(core(3, 0), core(3, 1)), list(core(2, 0), core(3, 0), core(3, 1))},
	} {
		if got, e := lrzero.Closure(g, c.l); e != api.OK || !slices.Equal(got, c.want) {
			t.Errorf("Closure of %v: %v, %v, want %v", c.l, got, e, c.want)
		}
	}
	if a := must(lrzero.Build(grammarOf(1, 2, 0, prod(1, term(0))))); len(a.States) != 2 || len(a.Edges) != 1 {
		t.Error("a start without productions:", a)
	}
}

// P11.1: very many items of few kinds.
func TestManyItems(t *testing.T) {
	g := nest()
	many := slices.Repeat(list(core(1, 1), core(0, 1), core(-1, 1)), 1<<18)
	if got, e := lrzero.Closure(g, many); e != api.OK || !slices.Equal(got, list(core(-1, 1), core(0, 0), core(0, 1), core(1, 0), core(1, 1))) {
		t.Error(got, e)
	}
	if got, e := lrzero.Closure(g, append(many, core(1, 2))); e != api.ErrItem || len(got) != 0 {
		t.Error(len(got), e)
	}
}

// greatest has as many terminals, nonterminals and productions as there may be, and right sides as long as they may be.
func greatest() api.Grammar {
	const n = 64
	g := grammarOf(n, n, 0)
	for i := range n {
		next := non((i + 1) % n)
		long := append(slices.Repeat(syms(next), 15), term(i))
		g.Prods = append(g.Prods, prod(i, next), prod(i, term(i)), prod(i, long...), prod(i, next, non((i+2)%n)))
	}
	return g
}

// P11.1 and P11.2: a grammar at every limit.
func TestGreatestGrammar(t *testing.T) {
	g := greatest()
	if e, at := grammar.Check(g); e != api.OK {
		t.Fatal(e, at)
	}
	if l := must(lrzero.Closure(g, list(core(-1, 0)))); len(l) != 257 {
		t.Fatal("as many as there are productions, and one:", len(l))
	}
	if l := must(lrzero.Closure(g, coresOf(g))); !slices.Equal(l, coresOf(g)) {
		t.Fatal("all:", len(l))
	}
	a := must(lrzero.Build(g))
	m, bare := plainOf(a)
	if !bare || len(a.States) != 1154 || len(a.Edges) != 131328 {
		t.Fatal("Build:", len(a.States), len(a.Edges))
	}
	for at := 0; at < len(a.Edges); at += 997 {
		e := a.Edges[at]
		if l := must(lrzero.Goto(g, m.states[e.From], e.Sym)); !slices.Equal(l, m.states[e.To]) {
			t.Fatal("Build:", e)
		}
	}
}

// rows has right sides of terminals alone, by which it has just so many states (from 3 on): state 0, that behind start, and one for each beginning of a right side.
func rows(states int) api.Grammar {
	g := grammarOf(64, 1, 0)
	for left := states - 2; left > 0; {
		n := len(g.Prods)
		known := 0
		if n >= 64 { // the first terminal stood ahead of another row
			known = 1
		}
		length := min(16, known+left)
		row := slices.Repeat(syms(term(n/64)), length)
		row[0] = term(n % 64)
		g.Prods = append(g.Prods, prod(0, row...))
		left -= length - known
	}
	return g
}

// P11.2: as many states as there may be, and one more.
func TestMaxStates(t *testing.T) {
	for _, n := range []int{3, 4, 18, 19, 1026, 1027, 2047, 2048} {
		a, e := lrzero.Build(rows(n))
		if e != api.OK || len(a.States) != n || len(a.Edges) != n-1 {
			t.Fatal(n, len(a.States), len(a.Edges), e)
		}
		if to, ok := lrzero.Walk(a, 0, rows(n).Prods[0].Right); !ok || to == 0 {
			t.Error(n, to, ok)
		}
	}
	for _, n := range []int{2049, 2050, 3000} {
		if a, e := lrzero.Build(rows(n)); e != api.ErrStates || len(a.States)+len(a.Edges) != 0 {
			t.Fatal(n, len(a.States), len(a.Edges), e)
		}
	}
}

// P11.2: the last production of as many as there may be is not taken for start's own.
func TestLastProduction(t *testing.T) {
	g := grammarOf(64, 1, 0)
	for n := range 255 {
		g.Prods = append(g.Prods, prod(0, term(n%63), term(n/63)))
	}
	g.Prods = append(g.Prods, prod(0, term(63)))
	a := heldOfAutomaton(t, g)
	one, _ := lrzero.Walk(a, 0, syms(term(63)))
	two, _ := lrzero.Walk(a, 0, syms(non(0)))
	if len(a.States) != 321 || one == two {
		t.Error(len(a.States), one, two)
	}
}

// remembers has an automaton that must know which of the last 62 terminals were 0: nonterminal n may come just where the terminal n places back was.
func remembers() api.Grammar {
	g := grammarOf(2, 64, 0, prod(0, term(0), non(0)), prod(0, term(1), non(0)), prod(0, term(0), non(1)))
	for n := 1; n < 63; n++ {
		g.Prods = append(g.Prods, prod(n, term(0), non(n+1)), prod(n, term(1), non(n+1)))
	}
	g.Prods = append(g.Prods, prod(63, term(1)))
	return g
}

// P11.2 and P11.4: of an automaton with very many states Build tells that there are too many; what is viable is told all the same.
func TestViableBeyondMaxStates(t *testing.T) {
	g := remembers()
	if a, e := lrzero.Build(g); e != api.ErrStates || len(a.States)+len(a.Edges) != 0 {
		t.Fatal("Build:", len(a.States), e)
	}
	r := rand.New(rand.NewSource(112))
	var l []api.Sym
	for range 500 {
		l = append(l, term(r.Intn(2)))
		n := 1 + r.Intn(63)
		want := n <= len(l) && l[len(l)-n] == term(0)
		if got, e := lrzero.Viable(g, append(slices.Clone(l), non(n))); e != api.OK || got != want {
			t.Fatal("Viable:", len(l), n, got, e)
		}
	}
	if got, e := lrzero.Viable(g, append(l, non(0))); e != api.OK || !got {
		t.Error("start itself:", got, e)
	}
	if got, e := lrzero.Viable(rows(3000), rows(3000).Prods[100].Right); e != api.OK || !got {
		t.Error("Viable of a row:", got, e)
	}
}

// P11.3 and P11.4: long lists of symbols.
func TestLongLists(t *testing.T) {
	g := nest()
	a := must(lrzero.Build(g))
	l := slices.Repeat(syms(term(0)), 1<<18)
	for _, c := range []struct {
		last api.Sym
		to   int
		want bool
	}{{term(0), 1, true}, {term(2), 2, true}, {non(0), 4, true}, {term(1), 0, false}} {
		all := append(slices.Clone(l), c.last)
		if to, ok := lrzero.Walk(a, 0, all); to != c.to || ok != c.want {
			t.Error("Walk:", c, to, ok)
		}
		if got, e := lrzero.Viable(g, all); e != api.OK || got != c.want {
			t.Error("Viable:", c, got, e)
		}
	}
}

// heldOfStates asks the calls that have an automaton, of all states and some that are none.
func heldOfStates(t *testing.T, a api.Automaton) {
	t.Helper()
	for _, state := range []int{math.MinInt, -1, 0, 1, 2, 3, 4, 5, math.MaxInt} {
		way, ok := lrzero.Access(a, state)
		if want, there := modelAccess(a, state); ok != there || !slices.Equal(way, want) {
			t.Fatalf("Access(%v, %d): %v, %v, want %v, %v", a, state, way, ok, want, there)
		}
		s, ok := lrzero.Incoming(a, state)
		if want, there := modelIncoming(a, state); ok != there || s != want {
			t.Fatalf("Incoming(%v, %d): %v, %v, want %v, %v", a, state, s, ok, want, there)
		}
		for length := range 4 {
			eachList(alphabet(a), length, func(l []api.Sym) bool {
				to, ok := lrzero.Walk(a, state, l)
				if want, there := modelWalk(a, state, l); ok != there || to != want {
					t.Fatalf("Walk(%v, %d, %v): %d, %v, want %d, %v", a, state, l, to, ok, want, there)
				}
				return false
			})
		}
	}
}

// P11.3: automata that no call made, of all kinds.
func TestStrangeAutomata(t *testing.T) {
	r := rand.New(rand.NewSource(113))
	for range 6000 {
		heldOfStates(t, anyAutomaton(r))
	}
	r = rand.New(rand.NewSource(114))
	for range 300 {
		g := anyGrammar(r, 2, 1, 2, 2)
		if a := must(lrzero.Build(g)); len(a.States) < 7 {
			heldOfStates(t, a)
		}
	}
}

// P11.3: the edges that the chapter names, one by one.
func TestAutomataEdges(t *testing.T) {
	x, y := term(0), term(1)
	for _, c := range []struct {
		about string
		a     api.Automaton
		way   []api.Sym // of state 1
		ok    bool
		in    api.Sym
		one   bool
	}{
		{"no edge", hand(2), nil, false, api.Sym{}, false},
		{"the first counts", hand(3, edge(0, x, 2), edge(0, x, 1)), nil, false, x, true},
		{"the first counts, and leads to no state", hand(2, edge(0, x, 2), edge(0, x, 1)), nil, false, x, true},
		{"the first counts, wherever the other stands", hand(3, edge(0, x, 1), edge(2, y, 0), edge(0, x, 2)), syms(x), true, x, true},
		{"a nonterminal is behind a terminal", hand(2, edge(0, non(0), 1), edge(0, y, 1)), syms(y), true, api.Sym{}, false},
		{"the shorter way goes ahead of the lesser one", hand(3, edge(0, x, 2), edge(2, x, 1), edge(0, non(5), 1)), syms(non(5)), true, api.Sym{}, false},
		{"the lesser of two ways, by its first symbol", hand(4, edge(0, y, 2), edge(0, x, 3), edge(2, x, 1), edge(3, y, 1)), syms(x, y), true, api.Sym{}, false},
		{"from no state", hand(2, edge(-1, x, 1), edge(2, x, 1)), nil, false, x, true},
		{"from no state over another symbol", hand(2, edge(0, y, 1), edge(7, x, 1)), syms(y), true, api.Sym{}, false},
		{"an edge that does not count comes in", hand(3, edge(0, x, 1), edge(0, x, 2), edge(2, x, 0), edge(2, x, 1)), syms(x), true, x, true},
		{"a symbol of no kind", hand(2, edge(0, api.Sym{}, 1)), syms(api.Sym{}), true, api.Sym{}, true},
		{"by its kind, then by its number", hand(2, edge(0, api.Sym{Kind: -3, N: 9}, 1), edge(0, api.Sym{N: -9}, 1)), syms(api.Sym{Kind: -3, N: 9}), true, api.Sym{}, false},
		{"unlike symbols with a like one between", hand(2, edge(0, x, 1), edge(0, y, 1), edge(1, x, 1)), syms(x), true, api.Sym{}, false},
	} {
		if way, ok := lrzero.Access(c.a, 1); ok != c.ok || !slices.Equal(way, c.way) {
			t.Error("Access:", c.about, way, ok)
		}
		if s, ok := lrzero.Incoming(c.a, 1); ok != c.one || s != c.in {
			t.Error("Incoming:", c.about, s, ok)
		}
		if to, ok := lrzero.Walk(c.a, 0, c.way); c.ok && (!ok || to != 1) {
			t.Error("Walk:", c.about, to, ok)
		}
	}
	if way, ok := lrzero.Access(hand(1, edge(0, x, 0)), 0); !ok || len(way) != 0 {
		t.Error("the way to state 0:", way, ok)
	}
	for _, n := range []int{math.MinInt, -1, 0, 1, math.MaxInt} {
		to, ok := lrzero.Walk(api.Automaton{}, n, nil)
		way, found := lrzero.Access(hand(0, edge(n, x, n)), n)
		s, one := lrzero.Incoming(hand(0, edge(n, x, n)), n)
		if to != 0 || ok || len(way) != 0 || found || s != (api.Sym{}) || one {
			t.Error("no states:", n)
		}
	}
}

// ring has so many states; an edge leads from each to the next one, and edges over other symbols to themselves. They stand in falling order, the last first.
func ring(n int) api.Automaton {
	a := hand(n)
	for from := n - 1; from >= 0; from-- {
		a.Edges = append(a.Edges, edge(from, non(0), (from+1)%n), edge(from, term(1), from), edge(from, non(0), from))
	}
	return a
}

// P11.3: an automaton with more states and edges than any grammar's.
func TestGreatAutomaton(t *testing.T) {
	const n = 1 << 17
	a := ring(n)
	way, ok := lrzero.Access(a, n-1)
	if !ok || len(way) != n-1 || !slices.Equal(way, slices.Repeat(syms(non(0)), n-1)) {
		t.Fatal("Access:", len(way), ok)
	}
	if to, ok := lrzero.Walk(a, 5, append(way, term(1), non(0), non(0))); !ok || to != 6 {
		t.Error("Walk:", to, ok)
	}
	if s, ok := lrzero.Incoming(a, 7); ok || s != (api.Sym{}) {
		t.Error("Incoming:", s, ok)
	}
}
