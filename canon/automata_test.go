package canon_test

import (
	"math"
	"math/rand"
	"slices"
	"testing"

	"gantry/api"
	"gantry/canon"
)

func deep(a api.Automaton) api.Automaton {
	a.States, a.Edges = slices.Clone(a.States), slices.Clone(a.Edges)
	for n := range a.States {
		a.States[n] = slices.Clone(a.States[n])
		for i := range a.States[n] {
			a.States[n][i].Look = slices.Clone(a.States[n][i].Look)
		}
	}
	return a
}

// sorted lays the edges so that they rise, as far as no two are alike.
func sorted(a *api.Automaton) {
	slices.SortStableFunc(a.Edges, func(x, y api.Edge) int {
		switch {
		case above(x, y):
			return 1
		case above(y, x):
			return -1
		}
		return 0
	})
}

// swapped gives two states each other's number.
func swapped(a *api.Automaton, x, y int) {
	turn := func(n int) int {
		switch n {
		case x:
			return y
		case y:
			return x
		}
		return n
	}
	a.States[x], a.States[y] = a.States[y], a.States[x]
	for at, e := range a.Edges {
		a.Edges[at] = edge(turn(e.From), e.Sym, turn(e.To))
	}
}

// doubled adds a state like another one, with the same edges.
func doubled(a *api.Automaton, state int) int {
	n := len(a.States)
	a.States = append(a.States, deep(api.Automaton{States: a.States[state : state+1]}).States[0])
	for _, e := range leaving(*a, state) {
		a.Edges = append(a.Edges, edge(n, e.Sym, e.To))
	}
	return n
}

// strangeSyms are some that no grammar has, the end marker of a small one too.
func strangeSyms(g api.Grammar) []api.Sym {
	return syms(term(len(g.Terms)), term(-1), non(len(g.Nons)), non(-1), api.Sym{}, api.Sym{Kind: 3}, api.Sym{Kind: -1}, term(math.MinInt), non(math.MaxInt), api.Sym{Kind: math.MaxInt})
}

func strangeItems(g api.Grammar) []api.Item {
	return list(item(-2, 0), item(-1, 2), item(len(g.Prods), 0), item(0, -1), item(0, 17), item(math.MaxInt, 0), item(0, math.MinInt), item(-1, 0, len(g.Terms)+1), item(-1, 0, -1), item(-1, 0, 0, 0), item(-1, 0, len(g.Terms), 0))
}

func pick[T any](r *rand.Rand, l []T) T { return l[r.Intn(len(l))] }

// turn changes one thing of an automaton that has states. Some changes leave it one that may be.
func turn(r *rand.Rand, g api.Grammar, a *api.Automaton) {
	state := r.Intn(len(a.States))
	other := r.Intn(len(a.States))
	at := r.Intn(len(a.Edges) + 1)
	fresh := edge(state, pick(r, symbolsOf(g)), other)
	switch r.Intn(17) {
	case 0, 1:
		swapped(a, state, other)
		sorted(a)
	case 2:
		swapped(a, state, other)
	case 3, 4:
		n := doubled(a, state)
		if at < len(a.Edges) {
			a.Edges[at].To = n
		}
		sorted(a)
	case 5, 6:
		if at < len(a.Edges) {
			a.Edges[at].To = other
		}
	case 7:
		if at < len(a.Edges) {
			a.Edges = slices.Delete(a.Edges, at, at+1)
		}
	case 8:
		a.Edges = append(a.Edges, fresh)
		sorted(a)
	case 9:
		a.Edges = slices.Insert(a.Edges, at, fresh)
	case 10, 11:
		if l := a.States[state]; len(l) > 0 {
			i := r.Intn(len(l))
			l[i].Look = once(append(l[i].Look, r.Intn(len(g.Terms)+1)))
		}
	case 12:
		if l := a.States[state]; len(l) > 0 {
			i := r.Intn(len(l))
			a.States[state] = slices.Delete(l, i, i+1)
		}
	case 13:
		a.States[state] = append(a.States[state], pick(r, strangeItems(g)))
	case 14:
		fresh.Sym = pick(r, strangeSyms(g))
		a.Edges = slices.Insert(a.Edges, at, fresh)
	case 15:
		if r.Intn(2) == 0 {
			fresh.From = pick(r, []int{-1, len(a.States), math.MinInt, math.MaxInt})
		} else {
			fresh.To = pick(r, []int{-1, len(a.States), math.MinInt, math.MaxInt})
		}
		a.Edges = slices.Insert(a.Edges, at, fresh)
	case 16:
		a.States[state] = nil
	}
}

// turned is an automaton with some things changed, laid in order again or not.
func turned(r *rand.Rand, g api.Grammar, a api.Automaton) api.Automaton {
	a = deep(a)
	for range r.Intn(4) {
		turn(r, g, &a)
	}
	if r.Intn(2) == 0 {
		if o, _, e := modelOrder(a); e == api.OK {
			return deep(o)
		}
	}
	return a
}

// heldOfAutomaton asks the calls that have an automaton, and counts what they answer.
func heldOfAutomaton(t *testing.T, g api.Grammar, a api.Automaton, seen map[string]int) {
	t.Helper()
	e, at := canon.Check(g, a)
	if want, place := modelCheck(g, a); e != want || at != place {
		t.Fatalf("Check(%v, %v): %v, %v, want %v, %v", g, a, e, at, want, place)
	}
	seen["Check "+e.Error()]++
	m, e := canon.Merge(g, a)
	if want, fault := modelMerge(g, a); e != fault || !sameAutomaton(m, want) {
		t.Fatalf("Merge(%v, %v): %v, %v, want %v, %v", g, a, m, e, want, fault)
	}
	seen["Merge "+e.Error()]++
	o, was, e := canon.Order(a)
	if want, had, fault := modelOrder(a); e != fault || !sameAutomaton(o, want) || !slices.Equal(was, had) {
		t.Fatalf("Order(%v): %v, %v, %v, want %v, %v, %v", a, o, was, e, want, had, fault)
	}
	seen["Order "+e.Error()]++
	l, e := canon.Conflicts(g, a)
	if want, fault := modelConflicts(g, a); e != fault || !sameConflicts(l, want) {
		t.Fatalf("Conflicts(%v, %v): %v, %v, want %v, %v", g, a, l, e, want, fault)
	}
	for state := -1; state <= len(a.States); state++ {
		for _, s := range append(symbolsOf(g), strangeSyms(g)...) {
			if to := canon.Next(a, state, s); to != modelNext(a, state, s) {
				t.Fatalf("Next(%v, %d, %v): %d", a, state, s, to)
			}
		}
	}
	for length := range 4 {
		eachList(symbolsOf(g), length, func(way []api.Sym) {
			to, gone := canon.Walk(a, way)
			if want, far := modelWalk(a, way); to != want || gone != far {
				t.Fatalf("Walk(%v, %v): %d, %d, want %d, %d", a, way, to, gone, want, far)
			}
		})
	}
}

// P12.2 and P12.3: automata of calls, some things of them changed, and those that are left in order.
func TestTurnedAutomata(t *testing.T) {
	r := rand.New(rand.NewSource(122))
	seen := map[string]int{}
	for range 4000 {
		g := anyGrammar(r, 2, 3, 6, 3)
		a := must(canon.Canonical(g))
		if r.Intn(4) == 0 {
			a = must(canon.Merged(g))
		}
		if len(a.States) < 30 {
			heldOfAutomaton(t, g, turned(r, g, a), seen)
		}
	}
	for name, errs := range map[string][]api.Errno{
		"Check ": {api.OK, api.ErrItem, api.ErrRange, api.ErrOrder, api.ErrSymbol},
		"Merge ": {api.OK, api.ErrArg, api.ErrOrder, api.ErrRange},
		"Order ": {api.OK, api.ErrRange, api.ErrTwice},
	} {
		for _, e := range errs {
			if seen[name+e.Error()] < 50 {
				t.Error("too seldom:", name, e, seen)
			}
		}
	}
}

// anyAutomaton has few states with any items, its edges in any order, some twice, some from or to no state, over symbols of any kind.
func anyAutomaton(r *rand.Rand) api.Automaton {
	a := api.Automaton{States: make([][]api.Item, r.Intn(6))}
	for n := range a.States {
		for range r.Intn(3) {
			a.States[n] = append(a.States[n], item(r.Intn(5)-2, r.Intn(4)-1, r.Perm(r.Intn(4))...))
		}
	}
	beside := r.Intn(3) / 2
	anyState := func() int { return r.Intn(max(1, len(a.States)+2*beside)) - beside }
	for range r.Intn(7) {
		s := api.Sym{Kind: api.SymKind(r.Intn(4) - r.Intn(2)), N: r.Intn(3) - 1}
		a.Edges = append(a.Edges, edge(anyState(), s, anyState()))
	}
	return a
}

// P12.2 and P12.3: automata that no call made.
func TestStrangeAutomata(t *testing.T) {
	r := rand.New(rand.NewSource(123))
	seen := map[string]int{}
	for range 10000 {
		heldOfAutomaton(t, anyGrammar(r, 2, 2, 3, 2), anyAutomaton(r), seen)
	}
	for _, e := range []api.Errno{api.OK, api.ErrRange, api.ErrTwice} {
		if seen["Order "+e.Error()] < 200 {
			t.Error("too seldom:", seen)
		}
	}
}

// P12.2: what Check names, one by one: the first fault is told, states' ahead of edges'.
func TestCheck(t *testing.T) {
	g := pairs()
	wide := func(n int) api.Automaton { return api.Automaton{States: make([][]api.Item, n)} }
	for _, c := range []struct {
		about string
		a     api.Automaton
		want  api.Errno
		at    int
	}{
		{"no states", api.Automaton{Edges: []api.Edge{edge(0, term(0), 0)}}, api.ErrStates, 0},
		{"one without items", wide(1), api.OK, 1},
		{"as many as there may be", wide(2048), api.OK, 2048},
		{"one more", wide(2049), api.ErrStates, 0},
		{"too many ahead of wrong items", api.Automaton{States: slices.Repeat([][]api.Item{list(item(9, 9))}, 2049)}, api.ErrStates, 0},
		{"an item", api.Automaton{States: [][]api.Item{nil, list(item(2, 2))}, Edges: []api.Edge{edge(9, term(9), 9)}}, api.ErrItem, 1},
		{"a lookahead", api.Automaton{States: [][]api.Item{list(item(2, 1, 2)), list(item(2, 1, 3)), list(item(7, 0))}}, api.ErrRange, 1},
		{"lookaheads that do not rise", api.Automaton{States: [][]api.Item{list(item(2, 1, 1, 1))}}, api.ErrOrder, 0},
		{"cores that do not rise", api.Automaton{States: [][]api.Item{nil, nil, list(item(0, 0), item(-1, 0))}}, api.ErrOrder, 2},
		{"from no state", api.Automaton{States: wide(2).States, Edges: []api.Edge{edge(0, term(0), 1), edge(2, term(9), 0)}}, api.ErrRange, 3},
		{"to no state", api.Automaton{States: wide(2).States, Edges: []api.Edge{edge(0, term(0), -1)}}, api.ErrRange, 2},
		{"the end marker", api.Automaton{States: wide(2).States, Edges: []api.Edge{edge(1, term(0), 1), edge(0, term(2), 1)}}, api.ErrSymbol, 3},
		{"a From that falls", api.Automaton{States: wide(2).States, Edges: []api.Edge{edge(1, term(0), 1), edge(0, term(1), 1)}}, api.ErrOrder, 3},
		{"a symbol that falls", api.Automaton{States: wide(2).States, Edges: []api.Edge{edge(0, non(0), 1), edge(0, term(1), 1)}}, api.ErrOrder, 3},
		{"a symbol twice", api.Automaton{States: wide(2).States, Edges: []api.Edge{edge(0, term(0), 0), edge(0, term(1), 0), edge(0, term(1), 1)}}, api.ErrOrder, 4},
		{"terminals ahead of nonterminals", api.Automaton{States: wide(2).States, Edges: []api.Edge{edge(0, term(1), 1), edge(0, non(0), 0), edge(1, term(0), 0)}}, api.OK, 5},
	} {
		if e, at := canon.Check(g, c.a); e != c.want || at != c.at {
			t.Error("Check:", c.about, e, at)
		}
		if c.want == api.OK {
			continue
		}
		if m, e := canon.Merge(g, c.a); e != c.want || !isEmpty(m) {
			t.Error("Merge:", c.about, m, e)
		}
		if l, e := canon.Conflicts(g, c.a); e != c.want || len(l) != 0 {
			t.Error("Conflicts:", c.about, l, e)
		}
	}
}

// P12.2: what Merge names, one by one.
func TestMerge(t *testing.T) {
	g := pairs()
	c, d := list(item(2, 1, 0)), list(item(2, 1, 1))
	begin, other := list(item(-1, 0)), list(item(-1, 1, 2))
	x, y := term(0), term(1)
	for _, q := range []struct {
		about  string
		states [][]api.Item
		edges  []api.Edge
		e      api.Errno
		merged api.Automaton
	}{
		{"two of one core", [][]api.Item{begin, c, d}, []api.Edge{edge(0, x, 1), edge(0, y, 2)}, api.OK,
			api.Automaton{States: [][]api.Item{begin, list(item(2, 1, 0, 1))}, Edges: []api.Edge{edge(0, x, 1), edge(0, y, 1)}}},
		{"one and itself, by edges between both", [][]api.Item{c, d}, []api.Edge{edge(0, x, 1), edge(1, x, 0)}, api.OK,
			api.Automaton{States: [][]api.Item{list(item(2, 1, 0, 1))}, Edges: []api.Edge{edge(0, x, 0)}}},
		{"without items", [][]api.Item{nil, nil}, []api.Edge{edge(0, x, 1), edge(1, x, 1)}, api.OK,
			api.Automaton{States: [][]api.Item{nil}, Edges: []api.Edge{edge(0, x, 0)}}},
		{"edges over other symbols", [][]api.Item{c, d}, []api.Edge{edge(0, x, 1), edge(1, y, 0)}, api.ErrArg, api.Automaton{}},
		{"one edge more", [][]api.Item{c, d}, []api.Edge{edge(0, x, 1)}, api.ErrArg, api.Automaton{}},
		{"edges to other cores", [][]api.Item{c, d, other}, []api.Edge{edge(0, x, 1), edge(1, x, 2)}, api.ErrArg, api.Automaton{}},
		{"that is told ahead of what is not in order", [][]api.Item{c, d, other}, []api.Edge{edge(0, x, 1)}, api.ErrArg, api.Automaton{}},
		{"a state that is not reached", [][]api.Item{begin, c, other}, []api.Edge{edge(0, x, 1)}, api.ErrOrder, api.Automaton{}},
		{"one that is not reached, of a core that is", [][]api.Item{begin, c, d}, []api.Edge{edge(0, x, 1)}, api.ErrOrder, api.Automaton{}},
		{"numbers as they are not met", [][]api.Item{begin, c, other}, []api.Edge{edge(0, x, 2), edge(0, y, 1)}, api.ErrOrder, api.Automaton{}},
		{"one alone", [][]api.Item{other}, nil, api.OK, api.Automaton{States: [][]api.Item{other}}},
	} {
		if m, e := canon.Merge(g, api.Automaton{States: q.states, Edges: q.edges}); e != q.e || !sameAutomaton(m, q.merged) {
			t.Error(q.about, m, e)
		}
	}
}

// P12.2: what Order names, one by one; items may be any.
func TestOrder(t *testing.T) {
	odd := [][]api.Item{list(item(-9, 5, 3, 1)), list(item(7, 7), item(7, 7)), nil, list(item(math.MinInt, math.MaxInt, -1))}
	x, y, z := term(5), non(-3), api.Sym{Kind: 9, N: 1}
	for _, c := range []struct {
		about string
		edges []api.Edge
		e     api.Errno
		was   []int
		want  []api.Edge
	}{
		{"no edges", nil, api.OK, []int{0}, nil},
		{"by symbols", []api.Edge{edge(0, z, 1), edge(0, y, 2), edge(0, x, 3)}, api.OK, []int{0, 3, 2, 1}, []api.Edge{edge(0, x, 1), edge(0, y, 2), edge(0, z, 3)}},
		{"the nearer one first", []api.Edge{edge(3, x, 1), edge(0, x, 3), edge(0, y, 2), edge(1, z, 0)}, api.OK, []int{0, 3, 2, 1}, []api.Edge{edge(0, x, 1), edge(0, y, 2), edge(1, x, 3), edge(3, z, 0)}},
		{"what is not reached goes, with its edges", []api.Edge{edge(3, y, 0), edge(0, x, 2), edge(3, x, 2), edge(2, x, 2)}, api.OK, []int{0, 2}, []api.Edge{edge(0, x, 1), edge(1, x, 1)}},
		{"from no state", []api.Edge{edge(0, x, 1), edge(4, x, 1)}, api.ErrRange, nil, nil},
		{"to no state", []api.Edge{edge(3, x, -1)}, api.ErrRange, nil, nil},
		{"twice", []api.Edge{edge(0, x, 1), edge(1, x, 0), edge(0, x, 1)}, api.ErrTwice, nil, nil},
		{"twice, from what is not reached", []api.Edge{edge(3, z, 1), edge(3, z, 0)}, api.ErrTwice, nil, nil},
		{"no state ahead of twice", []api.Edge{edge(0, x, 1), edge(0, x, 1), edge(0, y, 4)}, api.ErrRange, nil, nil},
	} {
		var want api.Automaton
		for _, n := range c.was {
			want.States = append(want.States, odd[n])
		}
		want.Edges = c.want
		if a, was, e := canon.Order(api.Automaton{States: odd, Edges: c.edges}); e != c.e || !slices.Equal(was, c.was) || !sameAutomaton(a, want) {
			t.Error(c.about, a, was, e)
		}
	}
	if a, was, e := canon.Order(api.Automaton{}); e != api.ErrRange || len(was) != 0 || !isEmpty(a) {
		t.Error("no states:", a, was, e)
	}
	if a, was, e := canon.Order(api.Automaton{Edges: []api.Edge{edge(0, x, 0), edge(0, x, 0)}}); e != api.ErrRange || len(was) != 0 || !isEmpty(a) {
		t.Error("edges of none:", a, was, e)
	}
}

// P12.3: the edges and items alone decide, whether they fit to each other or not.
func TestConflictsOfStrange(t *testing.T) {
	g := grammarOf(2, 2, 0, prod(0, term(0)), prod(1), prod(1, non(0)))
	a := api.Automaton{
		States: [][]api.Item{
			list(item(-1, 0, 0), item(0, 0, 0, 1), item(1, 0, 0, 2)),
			list(item(-1, 1, 0, 1, 2), item(0, 1, 1, 2), item(1, 0, 2), item(2, 1, 2)),
			list(item(2, 1)),
			list(item(0, 1, 2), item(1, 0, 1)),
		},
		Edges: []api.Edge{edge(0, term(0), 0), edge(0, term(1), 1), edge(0, non(0), 2), edge(1, term(0), 3), edge(1, non(1), 3), edge(2, term(1), 0)},
	}
	want := []api.Conflict{
		{State: 0, Look: 0, Shift: 0, Reduce: []int{1}},
		{State: 1, Look: 0, Shift: 3, Reduce: []int{-1}},
		{State: 1, Look: 1, Shift: -1, Reduce: []int{-1, 0}},
		{State: 1, Look: 2, Shift: -1, Reduce: []int{-1, 0, 1, 2}},
	}
	if l, e := canon.Conflicts(g, a); e != api.OK || !sameConflicts(l, want) {
		t.Error(l, e)
	}
}
