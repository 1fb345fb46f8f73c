package lookahead_test

import (
	"math"
	"math/rand"
	"slices"
	"testing"

	"gantry/api"
	"gantry/grammar"
	"gantry/lookahead"
	"gantry/lrzero"
)

// nest is S → ( S ), S → x.
func nest() api.Grammar {
	return api.Grammar{Terms: []string{"'('", "')'", "x"}, Nons: []string{"S"}, Prods: []api.Prod{prod(0, term(0), non(0), term(1)), prod(0, term(2))}}
}

// assign is S → L = R, S → R, L → * R, L → x, R → L.
func assign() api.Grammar {
	return api.Grammar{Terms: []string{"'='", "'*'", "x"}, Nons: []string{"S", "L", "R"}, Prods: []api.Prod{
		prod(0, non(1), term(0), non(2)), prod(0, non(2)), prod(1, term(1), non(2)), prod(1, term(2)), prod(2, non(1)),
	}}
}

// optional is S → A B C, A → a, B → b, B → nothing, C → c, C → nothing.
func optional() api.Grammar {
	return api.Grammar{Terms: []string{"a", "b", "c"}, Nons: []string{"S", "A", "B", "C"}, Prods: []api.Prod{
		prod(0, non(1), non(2), non(3)), prod(1, term(0)), prod(2, term(1)), prod(2), prod(3, term(2)), prod(3),
	}}
}

// P13.2 and P13.3: the chapter's example, state by state.
func TestAssign(t *testing.T) {
	want := api.Automaton{
		States: [][]api.Item{
			list(item(-1, 0), item(0, 0), item(1, 0), item(2, 0), item(3, 0), item(4, 0)),
			list(item(2, 0), item(2, 1), item(3, 0), item(4, 0)), // behind *
			list(item(3, 1, 0, 3)),
			list(item(-1, 1, 3)),
			list(item(0, 1), item(4, 1, 3)), // behind L
			list(item(1, 1, 3)),
			list(item(4, 1, 0, 3)),
			list(item(2, 2, 0, 3)),
			list(item(0, 2), item(2, 0), item(3, 0), item(4, 0)), // behind L =
			list(item(0, 3, 3)),
		},
		Edges: []api.Edge{
			edge(0, term(1), 1), edge(0, term(2), 2), edge(0, non(0), 3), edge(0, non(1), 4), edge(0, non(2), 5),
			edge(1, term(1), 1), edge(1, term(2), 2), edge(1, non(1), 6), edge(1, non(2), 7),
			edge(4, term(0), 8),
			edge(8, term(1), 1), edge(8, term(2), 2), edge(8, non(1), 6), edge(8, non(2), 9),
		},
	}
	g := assign()
	if a, e := lookahead.Attach(g); e != api.OK || !sameAutomaton(a, want) {
		t.Error("Attach:", a, e)
	}
	a := must(lrzero.Build(g))
	l := lookahead.Transitions(a)
	if !slices.Equal(l, []api.Edge{want.Edges[2], want.Edges[3], want.Edges[4], want.Edges[7], want.Edges[8], want.Edges[12], want.Edges[13]}) {
		t.Error("Transitions:", l)
	}
	if d, e := lookahead.Direct(g, a); e != api.OK || !sameLists(d, [][]int{{3}, {0}, {}, {}, {}, {}, {}}) {
		t.Error("Direct:", d, e)
	}
	if l, e := lookahead.Reads(g, a); e != api.OK || len(l) != 0 {
		t.Error("Reads:", l, e)
	}
	if l, e := lookahead.Includes(g, a); e != api.OK || !slices.Equal(l, []api.Pair{pair(1, 2), pair(2, 0), pair(3, 4), pair(4, 1), pair(4, 3), pair(4, 5), pair(5, 6), pair(6, 0)}) {
		t.Error("Includes:", l, e)
	}
	if l, e := lookahead.Follow(g); e != api.OK || !sameLists(l, [][]int{{3}, {0, 3}, {3}, {0, 3}, {0, 3}, {3}, {3}}) {
		t.Error("Follow:", l, e)
	}
	for _, c := range []struct {
		state, prod int
		want        []int
	}{{2, 3, []int{1, 3, 5}}, {4, 4, []int{2}}, {6, 4, []int{4, 6}}, {7, 2, []int{1, 3, 5}}, {9, 0, []int{0}}, {5, 1, []int{0}}} {
		if l, e := lookahead.Lookback(g, a, c.state, c.prod); e != api.OK || !slices.Equal(l, c.want) {
			t.Error("Lookback:", c, l, e)
		}
	}
}

// P13.2 and P13.3: what is read over nonterminals that may be nothing, and what comes behind them.
func TestOptional(t *testing.T) {
	g := optional()
	a := must(lrzero.Build(g))
	if l := lookahead.Transitions(a); !slices.Equal(l, []api.Edge{edge(0, non(0), 2), edge(0, non(1), 3), edge(3, non(2), 5), edge(5, non(3), 7)}) {
		t.Fatal("Transitions:", l)
	}
	if d, e := lookahead.Direct(g, a); e != api.OK || !sameLists(d, [][]int{{3}, {1}, {2}, {}}) {
		t.Error("Direct:", d, e)
	}
	if l, e := lookahead.Reads(g, a); e != api.OK || !slices.Equal(l, []api.Pair{pair(1, 2), pair(2, 3)}) {
		t.Error("Reads:", l, e)
	}
	if l, e := lookahead.Includes(g, a); e != api.OK || !slices.Equal(l, []api.Pair{pair(1, 0), pair(2, 0), pair(3, 0)}) {
		t.Error("Includes:", l, e)
	}
	if l, e := lookahead.Follow(g); e != api.OK || !sameLists(l, [][]int{{3}, {1, 2, 3}, {2, 3}, {3}}) {
		t.Error("Follow:", l, e)
	}
	for _, c := range []struct {
		state, prod int
		want        []int
	}{{1, 1, []int{1}}, {3, 3, []int{2}}, {4, 2, []int{2}}, {5, 5, []int{3}}, {6, 4, []int{3}}, {7, 0, []int{0}}} {
		if l, e := lookahead.Lookback(g, a, c.state, c.prod); e != api.OK || !slices.Equal(l, c.want) {
			t.Error("Lookback:", c, l, e)
		}
	}
	if b := must(lookahead.Attach(g)); !same(b.States[3], list(item(0, 1), item(2, 0), item(3, 0, 2, 3))) || !same(b.States[1], list(item(1, 1, 1, 2, 3))) {
		t.Error("Attach:", b)
	}
}

// heldOfGrammar holds all that is made of a grammar against the models.
func heldOfGrammar(t *testing.T, g api.Grammar) {
	t.Helper()
	a := must(lrzero.Build(g))
	if l := lookahead.Transitions(a); !slices.Equal(l, modelTransitions(a)) {
		t.Fatalf("Transitions(%v): %v", a, l)
	}
	if l, e := lookahead.Direct(g, a); e != api.OK || !sameLists(l, modelDirect(g, a)) {
		t.Fatalf("Direct(%v): %v, %v, want %v", g, l, e, modelDirect(g, a))
	}
	if l, e := lookahead.Reads(g, a); e != api.OK || !slices.Equal(l, modelReads(g, a)) {
		t.Fatalf("Reads(%v): %v, %v, want %v", g, l, e, modelReads(g, a))
	}
	if l, e := lookahead.Includes(g, a); e != api.OK || !slices.Equal(l, modelIncludes(g, a)) {
		t.Fatalf("Includes(%v): %v, %v, want %v", g, l, e, modelIncludes(g, a))
	}
	if l, e := lookahead.Follow(g); e != api.OK || !sameLists(l, modelFollow(g, a)) {
		t.Fatalf("Follow(%v): %v, %v, want %v", g, l, e, modelFollow(g, a))
	}
	if b, e := lookahead.Attach(g); e != api.OK || !sameAutomaton(b, modelAttach(g, a)) {
		t.Fatalf("Attach(%v): %v, %v, want %v", g, b, e, modelAttach(g, a))
	}
}

// heldOfEnds asks Lookback of each state and production, and of some that are none.
func heldOfEnds(t *testing.T, g api.Grammar) {
	t.Helper()
	a := must(lrzero.Build(g))
	for state := -1; state <= len(a.States); state++ {
		for prod := -2; prod <= len(g.Prods); prod++ {
			l, e := lookahead.Lookback(g, a, state, prod)
			if want, fault := modelLookback(g, a, state, prod); e != fault || !slices.Equal(l, want) {
				t.Fatalf("Lookback(%v, %d, %d): %v, %v, want %v, %v", g, state, prod, l, e, want, fault)
			}
		}
	}
}

// P13.1 to P13.3: every small grammar.
func TestSmallGrammars(t *testing.T) {
	eachSmall(func(g api.Grammar) {
		heldOfGrammar(t, g)
		heldOfEnds(t, g)
	})
}

// P13.1 to P13.3: many greater grammars.
func TestGreaterGrammars(t *testing.T) {
	r := rand.New(rand.NewSource(131))
	for range 300 {
		g := anyGrammar(r, 4, 5, 12, 4)
		if len(must(lrzero.Build(g)).States) < 60 {
			heldOfGrammar(t, g)
			heldOfEnds(t, g)
		}
	}
}

func FuzzGrammars(f *testing.F) {
	f.Add([]byte{0, 5, 4, 255, 1, 0, 255, 2, 1, 255, 1, 255})
	f.Add([]byte{1, 3, 0, 255, 0, 3, 4, 255, 2, 5, 5, 1})
	f.Fuzz(func(t *testing.T, b []byte) {
		g := grammarOf(2, 3, 0)
		for i := 0; i < len(b) && i < 24; i++ {
			p := prod(int(b[i] % 3))
			for i++; i < len(b) && b[i] < 200 && len(p.Right) < 4; i++ {
				if n := int(b[i] % 5); n < 2 {
					p.Right = append(p.Right, term(n))
				} else {
					p.Right = append(p.Right, non(n-2))
				}
			}
			g.Prods = append(g.Prods, p)
		}
		if e, _ := grammar.Check(g); e != api.OK {
			return
		}
		heldOfGrammar(t, g)
		heldOfEnds(t, g)
		heldOfMerged(t, g)
	})
}

// refused holds that every call that takes a grammar answers an error and nothing else.
func refused(t *testing.T, g api.Grammar, a api.Automaton, state, prod int, want api.Errno) {
	t.Helper()
	refusedOver(t, g, a, state, prod, want)
	if l, e := lookahead.Follow(g); e != want || len(l) != 0 {
		t.Errorf("Follow: %v, %v, want %v", len(l), e, want)
	}
	if b, e := lookahead.Attach(g); e != want || !isEmpty(b) {
		t.Errorf("Attach: %v, %v, want %v", len(b.States), e, want)
	}
}

// refusedOver holds it of the calls that take an automaton, too.
func refusedOver(t *testing.T, g api.Grammar, a api.Automaton, state, prod int, want api.Errno) {
	t.Helper()
	if l, e := lookahead.Direct(g, a); e != want || len(l) != 0 {
		t.Errorf("Direct: %v, %v, want %v", len(l), e, want)
	}
	if l, e := lookahead.Reads(g, a); e != want || len(l) != 0 {
		t.Errorf("Reads: %v, %v, want %v", len(l), e, want)
	}
	if l, e := lookahead.Includes(g, a); e != want || len(l) != 0 {
		t.Errorf("Includes: %v, %v, want %v", len(l), e, want)
	}
	if l, e := lookahead.Lookback(g, a, state, prod); e != want || len(l) != 0 {
		t.Errorf("Lookback: %v, %v, want %v", len(l), e, want)
	}
}

// P13.1: a grammar that may not be is told ahead of all else.
func TestWrongGrammars(t *testing.T) {
	own := must(lrzero.Build(assign()))
	for _, do := range []func(g *api.Grammar){
		func(g *api.Grammar) { *g = api.Grammar{} },
		func(g *api.Grammar) { g.Nons = nil },
		func(g *api.Grammar) { g.Terms[1] = "S" },
		func(g *api.Grammar) { g.Start = math.MinInt },
		func(g *api.Grammar) { g.Start = 3 },
		func(g *api.Grammar) { g.Prods = nil },
		func(g *api.Grammar) { g.Prods[2].Left = -1 },
		func(g *api.Grammar) { g.Prods[2].Right = syms(term(3)) },
		func(g *api.Grammar) { g.Prods[1].Right = slices.Repeat(syms(term(0)), 17) },
		func(g *api.Grammar) { g.Prods[2] = g.Prods[1] },
		func(g *api.Grammar) { g.Prods[2].Prec = 9 },
		func(g *api.Grammar) { g.Levels = []api.Level{{Assoc: api.AssocLeft, Terms: []int{1}}, {}} },
	} {
		g := assign()
		do(&g)
		want, _ := grammar.Check(g)
		if want == api.OK {
			t.Fatal("a grammar that may be:", g)
		}
		refused(t, g, own, 2, 3, want)
		refused(t, g, api.Automaton{}, -1, math.MaxInt, want)
	}
}

// rows has right sides of terminals alone, by which it has just so many states (from 3 on): state 0, that behind start, and one for each beginning of a right side.
func rows(states int) api.Grammar {
	g := grammarOf(64, 1, 0)
	for left := states - 2; left > 0; {
		n := len(g.Prods)
		known := 0
		if n >= 64 { // the first terminal stood ahead of another row
			known = 1
		}
		length := min(16, known+left)
		row := slices.Repeat(syms(term(n/64)), length)
		row[0] = term(n % 64)
		g.Prods = append(g.Prods, prod(0, row...))
		left -= length - known
	}
	return g
}

// P13.1: as many states as there may be, and one more, which is told ahead of an automaton that is not the grammar's.
func TestMaxStates(t *testing.T) {
	g := rows(2048)
	a := must(lrzero.Build(g))
	if d, e := lookahead.Direct(g, a); e != api.OK || !sameLists(d, [][]int{{64}}) {
		t.Error("Direct:", d, e)
	}
	for p := 0; p < len(g.Prods); p += 17 {
		end, _ := lrzero.Walk(a, 0, g.Prods[p].Right)
		if l, e := lookahead.Lookback(g, a, end, p); e != api.OK || !slices.Equal(l, []int{0}) {
			t.Error("Lookback:", p, l, e)
		}
	}
	b := must(lookahead.Attach(g))
	for n, state := range b.States {
		for _, i := range state {
			if want := modelLook(g, a, [][]int{{64}}, n, i); !slices.Equal(i.Look, want) {
				t.Fatal("Attach:", n, i)
			}
		}
	}
	for _, n := range []int{2049, 3000} {
		refused(t, rows(n), a, 0, 0, api.ErrStates)
		refused(t, rows(n), api.Automaton{}, -1, -1, api.ErrStates)
	}
}

// many has just so many transitions (from 64 on): nonterminal n gives the next one alone, so that a state in which it may come has one for it and each behind it; start also gives rows of nonterminals behind a terminal.
func many(n int) api.Grammar {
	g := grammarOf(64, 64, 0, prod(63, term(0)))
	for i := range 63 {
		g.Prods = append(g.Prods, prod(i, non(i+1)))
	}
	for row, left := 1, n-64; left > 0; row++ {
		from, length := 0, min(15, left/64)
		if length == 0 {
			from, length = 64-left, 1
		}
		g.Prods = append(g.Prods, prod(0, append(syms(term(row)), slices.Repeat(syms(non(from)), length)...)...))
		left -= length * (64 - from)
	}
	return g
}

// P13.1: as many transitions as there may be, and one more, which is told behind an automaton that is not the grammar's, and ahead of a state that there is not.
func TestMaxTransitions(t *testing.T) {
	for _, n := range []int{64, 65, 127, 128, 4095, 4096} {
		g := many(n)
		a := must(lrzero.Build(g))
		if l := lookahead.Transitions(a); len(l) != n {
			t.Fatal("Transitions:", n, len(l))
		}
		if l, e := lookahead.Direct(g, a); e != api.OK || len(l) != n {
			t.Error("Direct:", n, len(l), e)
		}
		if l, e := lookahead.Reads(g, a); e != api.OK || len(l) != 0 {
			t.Error("Reads:", n, len(l), e)
		}
		if l, e := lookahead.Includes(g, a); e != api.OK || len(l) < n-64 {
			t.Error("Includes:", n, len(l), e)
		}
		if l, e := lookahead.Lookback(g, a, 0, 0); e != api.ErrItem || len(l) != 0 {
			t.Error("Lookback:", n, l, e)
		}
		if l, e := lookahead.Follow(g); e != api.OK || len(l) != n {
			t.Error("Follow:", n, len(l), e)
		}
		if b, e := lookahead.Attach(g); e != api.OK || len(b.States) != len(a.States) {
			t.Error("Attach:", n, len(b.States), e)
		}
	}
	for _, n := range []int{4097, 4160, 9000} {
		g := many(n)
		a := must(lrzero.Build(g))
		if l := lookahead.Transitions(a); len(l) != n {
			t.Fatal("Transitions:", n, len(l))
		}
		refused(t, g, a, -1, -1, api.ErrMany)
		a.Edges = a.Edges[1:]
		refusedOver(t, g, a, -1, -1, api.ErrArg)
	}
}

// P13.1: no grammar's automaton but its own, and no state but its own.
func TestWrongAutomata(t *testing.T) {
	g := assign()
	for about, do := range map[string]func(a *api.Automaton){
		"nothing":                   func(a *api.Automaton) { *a = api.Automaton{} },
		"no edges":                  func(a *api.Automaton) { a.Edges = nil },
		"no states":                 func(a *api.Automaton) { a.States = nil },
		"the first edge is missing": func(a *api.Automaton) { a.Edges = a.Edges[1:] },
		"the last edge is missing":  func(a *api.Automaton) { a.Edges = a.Edges[:len(a.Edges)-1] },
		"an edge twice":             func(a *api.Automaton) { a.Edges = append(a.Edges, a.Edges[13]) },
		"edges in another order":    func(a *api.Automaton) { a.Edges[0], a.Edges[1] = a.Edges[1], a.Edges[0] },
		"an edge from elsewhere":    func(a *api.Automaton) { a.Edges[13].From = 9 },
		"an edge over another":      func(a *api.Automaton) { a.Edges[0].Sym = term(0) },
		"a terminal for the other":  func(a *api.Automaton) { a.Edges[4].Sym.Kind = api.SymTerm },
		"an edge to elsewhere":      func(a *api.Automaton) { a.Edges[13].To = 0 },
		"an edge to no state":       func(a *api.Automaton) { a.Edges[13].To = math.MaxInt },
		"the last state is missing": func(a *api.Automaton) { a.States = a.States[:9] },
		"a state more":              func(a *api.Automaton) { a.States = append(a.States, nil) },
		"states in another order":   func(a *api.Automaton) { a.States[7], a.States[9] = a.States[9], a.States[7] },
		"a state without items":     func(a *api.Automaton) { a.States[9] = nil },
		"an item is missing":        func(a *api.Automaton) { a.States[0] = a.States[0][:5] },
		"an item twice":             func(a *api.Automaton) { a.States[9] = append(a.States[9], a.States[9][0]) },
		"items in another order":    func(a *api.Automaton) { s := a.States[4]; s[0], s[1] = s[1], s[0] },
		"another production":        func(a *api.Automaton) { a.States[9][0].Prod = 2 },
		"another dot":               func(a *api.Automaton) { a.States[9][0].Dot = 2 },
		"a lookahead":               func(a *api.Automaton) { a.States[9][0].Look = []int{3} },
		"a lookahead at no end":     func(a *api.Automaton) { a.States[0][0].Look = []int{0} },
		"its own with lookaheads":   func(a *api.Automaton) { *a = must(lookahead.Attach(g)) },
		"another grammar's":         func(a *api.Automaton) { *a = must(lrzero.Build(nest())) },
	} {
		a := must(lrzero.Build(g))
		do(&a)
		t.Run(about, func(t *testing.T) {
			refusedOver(t, g, a, 2, 3, api.ErrArg)
			refusedOver(t, g, a, -1, -1, api.ErrArg)
		})
	}
}

// P13.1: nil and empty lists are one.
func TestEmptyLists(t *testing.T) {
	g := optional()
	a := must(lrzero.Build(g))
	for _, state := range a.States {
		for at := range state {
			state[at].Look = []int{}
		}
	}
	g.Prods[3].Right, g.Levels = []api.Sym{}, []api.Level{}
	if l, e := lookahead.Reads(g, a); e != api.OK || !slices.Equal(l, modelReads(g, a)) {
		t.Error(l, e)
	}
}

// P13.1: states and productions of any number.
func TestLookbackOfNone(t *testing.T) {
	g := optional()
	a := must(lrzero.Build(g))
	numbers := []int{math.MinInt, -2, -1, 0, 1, 3, 5, 6, 7, 8, 9, math.MaxInt}
	for _, state := range numbers {
		for _, prod := range numbers {
			l, e := lookahead.Lookback(g, a, state, prod)
			if want, fault := modelLookback(g, a, state, prod); e != fault || !slices.Equal(l, want) {
				t.Error(state, prod, l, e)
			}
		}
	}
}

// P13.1: the edges over nonterminals of any automaton, whatever else they are.
func TestTransitionsOfAny(t *testing.T) {
	odd := []api.Edge{
		edge(7, non(3), -1), edge(0, term(0), 1), edge(math.MinInt, non(-5), math.MaxInt), edge(0, api.Sym{}, 0), edge(0, api.Sym{Kind: 3}, 0),
		edge(7, non(3), -1), edge(0, api.Sym{Kind: -2, N: 1}, 0), edge(1, non(math.MaxInt), 1), edge(0, non(0), 1),
	}
	want := []api.Edge{odd[0], odd[2], odd[5], odd[7], odd[8]}
	for _, states := range [][][]api.Item{nil, {nil}, {list(item(9, 9, 9)), nil}} {
		if l := lookahead.Transitions(api.Automaton{States: states, Edges: odd}); !slices.Equal(l, want) {
			t.Error(l)
		}
	}
	if l := lookahead.Transitions(api.Automaton{}); len(l) != 0 {
		t.Error("of nothing:", l)
	}
}

// P13.2 and P13.3: barren nonterminals, those without productions, and lookaheads that are none.
func TestBarren(t *testing.T) {
	g := grammarOf(2, 4, 0, prod(0, non(1), non(2)), prod(1, non(3)), prod(1), prod(2, non(2), term(0)))
	heldOfGrammar(t, g)
	heldOfEnds(t, g)
	if a := must(lookahead.Attach(g)); !same(a.States[0], list(item(-1, 0), item(0, 0), item(1, 0), item(2, 0))) {
		t.Error("nothing comes behind what is barren:", a.States[0])
	}
	g = grammarOf(1, 2, 0, prod(1, term(0)))
	heldOfGrammar(t, g)
	if a := must(lookahead.Attach(g)); !sameAutomaton(a, api.Automaton{States: [][]api.Item{list(item(-1, 0)), list(item(-1, 1, 1))}, Edges: []api.Edge{edge(0, non(0), 1)}}) {
		t.Error("a start without productions:", a)
	}
}

// P13.2: the end marker is read behind start where the text begins, and nowhere else: not behind start inside it, nor behind another nonterminal.
func TestEndMarker(t *testing.T) {
	g := grammarOf(2, 2, 1, prod(1, non(0)), prod(0, term(0), non(1), term(1)), prod(0, term(0)))
	a := must(lrzero.Build(g))
	transitions := lookahead.Transitions(a)
	for x, l := range must(lookahead.Direct(g, a)) {
		first := transitions[x].From == 0 && transitions[x].Sym == non(1)
		if slices.Contains(l, 2) != first {
			t.Error(transitions[x], l)
		}
	}
	if l := must(lookahead.Follow(g)); !sameLists(l, modelFollow(g, a)) {
		t.Error(l)
	}
}
