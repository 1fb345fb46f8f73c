package cert_test

import (
	"math/rand"
	"reflect"
	"slices"
	"testing"

	"gantry/api"
	"gantry/canon"
	"gantry/cert"
	"gantry/first"
	"gantry/items"
	"gantry/lookahead"
	"gantry/lrzero"
)

// made is a table with its automaton and its certificate, of a grammar or of nobody.
type made struct {
	grammar   api.Grammar
	automaton api.Automaton
	table     api.Table
	cert      api.Cert
}

// anyMade tells false, if there is no certificate of what it came to.
func anyMade(r *rand.Rand) (made, bool) {
	m := made{grammar: anyGrammar(r, 3, 3, 6, 4)}
	g := m.grammar
	if r.Intn(2) == 0 {
		m.automaton = must(lookahead.Attach(g))
		m.table = sameRows(g, m.automaton)
	} else {
		m.table = anyWeb(r, g, 20)
		m.automaton = anyAutomaton(r, g, 3, 3)
		rows := len(m.table.Rows)
		m.automaton.States = slices.Repeat(m.automaton.States, rows)[:rows]
		m.automaton.Edges = slices.DeleteFunc(m.automaton.Edges, func(y api.Edge) bool { return max(y.From, y.To) >= rows })
	}
	var e api.Errno
	m.cert, e = cert.Make(g, m.automaton, m.table)
	return m, e == api.OK
}

func begins(l, with []api.Sym) bool { return len(with) <= len(l) && slices.Equal(l[:len(with)], with) }

// asked tells whether all that chapter 18 asks of a certificate along the edges is so, and nullable and first are closed.
func (m made) asked(c api.Cert) bool {
	for _, y := range modelEdges(m.grammar, m.table) {
		if y.To == 0 || c.Incoming[y.To] != y.Sym || !begins(cert.Below(c, y.From), c.PastSyms[y.To]) || !slices.Contains(c.PastStates[y.To][0], y.From) {
			return false
		}
		for at, l := range c.PastStates[y.From] {
			if at+1 < len(c.PastStates[y.To]) && !hasAll(l, c.PastStates[y.To][at+1]) {
				return false
			}
		}
	}
	n, _ := first.CheckNullable(m.grammar, c.Nullable)
	f, _ := first.CheckFirst(m.grammar, c.Nullable, c.First)
	return n == api.OK && f == api.OK
}

// cut shortens past symbols till each state's are a beginning of what lies below along each edge.
func (m made) cut(c api.Cert) {
	for again := true; again; {
		again = false
		for _, y := range modelEdges(m.grammar, m.table) {
			for l := &c.PastSyms[y.To]; !begins(cert.Below(c, y.From), *l); again = true {
				*l = (*l)[:len(*l)-1]
			}
		}
	}
}

// grow adds past states till each edge's are there.
func (m made) grow(c api.Cert) {
	for again := true; again; {
		again = false
		for _, y := range modelEdges(m.grammar, m.table) {
			for at, l := range slices.Concat([][]int{{y.From}}, c.PastStates[y.From]) {
				if at < len(c.PastStates[y.To]) && !hasAll(l, c.PastStates[y.To][at]) {
					c.PastStates[y.To][at] = once(slices.Concat(c.PastStates[y.To][at], l))
					again = true
				}
			}
		}
	}
}

// closeClaims adds to nullable and first till they are closed.
func closeClaims(g api.Grammar, c api.Cert) {
	for again := true; again; {
		again = false
		for _, p := range g.Prods {
			if is := must(first.IsNullable(g, c.Nullable, p.Right)); is && !c.Nullable[p.Left] {
				c.Nullable[p.Left], again = true, true
			}
			if l := must(first.Of(g, c.Nullable, c.First, p.Right, nil)); !hasAll(l, c.First[p.Left]) {
				c.First[p.Left], again = once(slices.Concat(c.First[p.Left], l)), true
			}
		}
	}
}

// anyOther is a certificate of which all is so that chapter 18 asks along the edges, from claims that have nothing to do with those of Make but for the symbols; these go a way back, or are cut.
func (m made) anyOther(r *rand.Rand) api.Cert {
	g, rows := m.grammar, len(m.table.Rows)
	c := api.Cert{Incoming: m.cert.Incoming, PastSyms: make([][]api.Sym, rows), PastStates: make([][][]int, rows), Items: make([][]api.Item, rows)}
	for range g.Nons {
		c.Nullable = append(c.Nullable, r.Intn(6) == 0)
		c.First = append(c.First, anyNumbers(r, len(g.Terms), 1))
	}
	closeClaims(g, c)
	l := modelEdges(g, m.table)
	for state := range rows {
		c.Items[state] = items.Union(m.automaton.States[state], anyItems(r, g, 2))
		most := pick(r, []int{16, 16, 16, r.Intn(17)})
		for at := state; at > 0 && len(c.PastSyms[state]) < most; {
			if at = pick(r, back(l, at, 1)); at > 0 {
				c.PastSyms[state] = append(c.PastSyms[state], c.Incoming[at])
			}
		}
	}
	m.cut(c)
	for state := 1; state < rows; state++ {
		for range len(c.PastSyms[state]) + 1 {
			c.PastStates[state] = append(c.PastStates[state], anyNumbers(r, rows, r.Intn(4)/3))
		}
	}
	m.grow(c)
	return c
}

// P16.4: what Make answers has the shape, is what chapter 18 asks for, and is Within all others that are.
func TestStrongest(t *testing.T) {
	r := rand.New(rand.NewSource(164))
	held, alike := 0, 0
	for range 3000 {
		m, ok := anyMade(r)
		if !ok {
			continue
		}
		if e, at := cert.Shape(m.grammar, m.table, m.cert); e != api.OK || at != 0 || !m.asked(m.cert) {
			t.Fatal("Make's:", m, e, at)
		}
		for range 3 {
			c := m.anyOther(r)
			if e, at := cert.Shape(m.grammar, m.table, c); e != api.OK || !m.asked(c) {
				t.Fatal("another:", m, c, e, at)
			}
			if !cert.Within(m.cert, c) {
				t.Fatal("it is not Within:", m, c)
			}
			held++
			if sameSyms(m.cert.PastSyms, c.PastSyms) {
				alike++
			}
		}
	}
	if held < 3000 || alike < 300 || held-alike < 300 {
		t.Error("too seldom:", held, alike)
	}
}

// P16.4: nothing more can be claimed: a symbol more, a state less, a nullable or a first less is refused along some edge or by some production.
func TestNothingMore(t *testing.T) {
	r := rand.New(rand.NewSource(1640))
	seen := [4]int{}
	for range 1500 {
		m, ok := anyMade(r)
		if !ok {
			continue
		}
		state := r.Intn(len(m.table.Rows))
		for kind := range seen {
			c := deepCert(m.cert)
			n := r.Intn(len(m.grammar.Nons))
			switch kind {
			case 0:
				if state == 0 || len(c.PastSyms[state]) == 16 {
					continue
				}
				c.PastSyms[state] = append(c.PastSyms[state], pick(r, symbolsOf(m.grammar)))
				c.PastStates[state] = append(c.PastStates[state], nil)
				m.grow(c)
			case 1:
				if state == 0 {
					continue
				}
				l := &c.PastStates[state][r.Intn(len(c.PastStates[state]))]
				at := r.Intn(len(*l))
				*l = slices.Delete(*l, at, at+1)
			case 2:
				if !c.Nullable[n] {
					continue
				}
				c.Nullable[n] = false
			case 3:
				if len(c.First[n]) == 0 {
					continue
				}
				c.First[n] = c.First[n][1:]
			}
			if cert.Within(m.cert, c) {
				t.Fatal("it claims no more:", m, c)
			}
			if m.asked(c) {
				t.Fatal("it may be claimed:", m, c)
			}
			seen[kind]++
		}
	}
	for kind, n := range seen {
		if n < 100 {
			t.Error("too seldom:", kind, seen)
		}
	}
}

// P16.5: along any way from state 0 the symbols and the states lie below as is claimed.
func TestBelowOnWays(t *testing.T) {
	r := rand.New(rand.NewSource(165))
	steps, deep := 0, 0
	for range 2000 {
		m, ok := anyMade(r)
		if !ok {
			continue
		}
		l := modelEdges(m.grammar, m.table)
		for range 5 {
			gone, through := []api.Sym{}, []int{}
			for at := 0; len(gone) < 40; steps++ {
				if !begins(gone, cert.Below(m.cert, at)) {
					t.Fatal("symbols:", m, gone, through, at)
				}
				for n, list := range m.cert.PastStates[at] {
					if !slices.Contains(list, through[n]) {
						t.Fatal("states:", m, gone, through, at)
					}
				}
				deep += len(m.cert.PastSyms[at])
				fan := slices.DeleteFunc(slices.Clone(l), func(y api.Edge) bool { return y.From != at })
				if len(fan) == 0 {
					break
				}
				y := pick(r, fan)
				gone, through, at = slices.Concat(syms(y.Sym), gone), slices.Concat([]int{at}, through), y.To
			}
		}
	}
	if steps < 10000 || deep < 10000 {
		t.Error("too seldom:", steps, deep)
	}
}

// atEnds is an automaton without the lookaheads of items whose dot does not stand at the end.
func atEnds(g api.Grammar, a api.Automaton) api.Automaton {
	a = deep(a)
	for _, state := range a.States {
		for at, i := range state {
			if i.Dot < len(rightOf(g, i.Prod)) {
				state[at].Look = nil
			}
		}
	}
	return a
}

// heldOfMerged holds Close of the automaton without lookaheads against Knuth's, its cores merged, and against the quick way; false, if Knuth's has too many states.
func heldOfMerged(t *testing.T, g api.Grammar) bool {
	t.Helper()
	a, e := cert.Close(g, must(lrzero.Build(g)))
	if e != api.OK {
		t.Fatal(g, e)
	}
	if want, e := lookahead.Attach(g); e == api.OK && !sameAutomaton(atEnds(g, a), want) {
		t.Fatalf("Close(%v): %v, want at the ends %v", g, a, want)
	}
	for _, z := range []api.Automaton{a, must(lookahead.Attach(g))} { // lookaheads that are there do not count
		if b, e := cert.Close(g, z); e != api.OK || !sameAutomaton(a, b) {
			t.Fatalf("Close(%v, %v): %v, %v, want %v", g, z, b, e, a)
		}
	}
	m, e := canon.Merged(g)
	if e != api.OK {
		return false
	}
	if !sameAutomaton(a, m) {
		t.Fatalf("Close(%v): %v, want %v", g, a, m)
	}
	return true
}

// crossed is S → a A d, S → b B d, S → a B e, S → b A e, A → c, B → c.
func crossed() api.Grammar {
	a, b, c, d, e := term(0), term(1), term(2), term(3), term(4)
	return grammarOf(5, 3, 0, prod(0, a, non(1), d), prod(0, b, non(2), d), prod(0, a, non(2), e), prod(0, b, non(1), e), prod(1, c), prod(2, c))
}

// hollow has that many rows of fifteen nonterminals, all of which may be nothing.
func hollow(n int) api.Grammar {
	g := grammarOf(n, 2, 0, prod(0), prod(1, non(0)))
	for i := range n {
		g.Prods = append(g.Prods, prod(0, append(syms(term(i)), slices.Repeat(syms(non(1)), 15)...)...))
	}
	return g
}

// ladder is n0 → t0 n1, n1 → t1 n2, .. up to the last, which is one terminal and the first, or nothing: lookaheads go down it step by step.
func ladder() api.Grammar {
	g := grammarOf(64, 64, 0)
	for n := range 63 {
		g.Prods = append(g.Prods, prod(n, term(n), non(n+1)))
	}
	g.Prods = append(g.Prods, prod(63, term(63), non(0), term(5)), prod(63))
	return g
}

// P16.8: Close of the automaton without lookaheads is Knuth's, its cores merged; at the ends it tells what DeRemer and Pennello's way does.
func TestMerged(t *testing.T) {
	eachSmall(func(g api.Grammar) { heldOfMerged(t, g) })
	r := rand.New(rand.NewSource(168))
	seen := 0
	for range 1500 {
		if heldOfMerged(t, anyGrammar(r, 4, 5, 12, 5)) {
			seen++
		}
	}
	if seen < 1000 {
		t.Error("too seldom:", seen)
	}
	for _, g := range []api.Grammar{nest(), assign(), crossed(), hollow(9), ladder()} {
		if !heldOfMerged(t, g) {
			t.Error("too many states:", g)
		}
	}
}

// P16.7: a chain that goes down from the last state, which only rounds that pass over what has not changed come along: as far as it leads there is the end marker.
func TestCloseOfChain(t *testing.T) {
	const count, last = 2048, 700
	a := term(0)
	g := grammarOf(1, 1, 0, prod(0, a, non(0)), prod(0, a))
	all := list(item(0, 0), item(0, 1), item(0, 2), item(1, 0), item(1, 1))
	z := api.Automaton{States: slices.Repeat(states(all), count)}
	z.States[0] = list(item(-1, 0), item(0, 0), item(1, 0))
	for n := range count {
		if n == last {
			continue
		}
		next := (n + count - 1) % count
		if n != 1 {
			z.Edges = append(z.Edges, edge(n, a, next))
		}
		z.Edges = append(z.Edges, edge(n, non(0), n))
	}
	k, e := cert.Close(g, z)
	if e != api.OK || !slices.Equal(k.Edges, z.Edges) {
		t.Fatal(e)
	}
	for n, state := range k.States {
		for _, i := range state {
			reached := n == 0 || n > last || n == last && i.Dot < 2
			if reached != slices.Equal(i.Look, []int{1}) || !reached && len(i.Look) > 0 {
				t.Fatal(n, i)
			}
		}
	}
}

// P16.7: as many states as there may be, each with all items and edges over all symbols. Without the end marker, which comes from state 0 alone, all have what a state has that leads to itself over all symbols; with it all is still closed.
func TestCloseOfGreat(t *testing.T) {
	const count = 2048
	g := grammarOf(64, 64, 0)
	for p := range 256 {
		g.Prods = append(g.Prods, prod(p/4, term(p/4), non((p/4+1)%64), non(p%4)))
	}
	g.Prods[255] = prod(63)
	var all []api.Item
	for p := -1; p < len(g.Prods); p++ {
		for dot := range len(rightOf(g, p)) + 1 {
			all = append(all, item(p, dot))
		}
	}
	z := api.Automaton{States: slices.Repeat(states(all), count)}
	alone := api.Automaton{States: states(nil, all)}
	for n := range z.States {
		for _, s := range symbolsOf(g) {
			z.Edges = append(z.Edges, edge(n, s, (n+count-1)%count))
		}
	}
	for _, s := range symbolsOf(g) {
		alone.Edges = append(alone.Edges, edge(1, s, 1))
	}
	k, want := must(cert.Close(g, z)), must(cert.Close(g, alone)).States[1]
	ends := 0
	for n, state := range k.States {
		for at, i := range state {
			if slices.Contains(i.Look, 64) {
				i.Look = i.Look[:len(i.Look)-1]
				ends++
			}
			if !sameItem(i, want[at]) {
				t.Fatal(n, i, want[at])
			}
		}
	}
	if ends < count {
		t.Error("too seldom:", ends)
	}
	for n, state := range k.States[:50] {
		if c := must(items.Closure(g, state)); !items.Within(c, state) {
			t.Fatal("not closed:", n)
		}
	}
}

// widen is a list with spare room behind it, all of it marked.
func widen[T any](l []T, mark T) []T {
	out := append(slices.Clone(l), mark, mark, mark)
	return out[:len(l):len(out)]
}

func whole[T any](l []T) []T { return slices.Clone(l[:cap(l)]) }

// each makes a list anew, part by part, by what makes the list and what makes a part.
func each[T any](l []T, list func([]T) []T, part func(T) T) []T {
	l = list(l)
	for n := range l {
		l[n] = part(l[n])
	}
	return l
}

// hands are two ways to make a thing anew: roomy puts spare room behind each list, shown lays open all that lists hold, spare room too.
type hands struct {
	names   func([]string) []string
	flags   func([]bool) []bool
	numbers func([]int) []int
	syms    func([]api.Sym) []api.Sym
	edges   func([]api.Edge) []api.Edge
	acts    func([]api.Action) []api.Action
	items   func([]api.Item) []api.Item
	prods   func([]api.Prod) []api.Prod
	rows    func([]api.Row) []api.Row
	lists   func([][]int) [][]int
	past    func([][]api.Sym) [][]api.Sym
	states  func([][]api.Item) [][]api.Item
	deep    func([][][]int) [][][]int
}

func roomy() hands {
	return hands{
		names:   func(l []string) []string { return widen(l, "spare") },
		flags:   func(l []bool) []bool { return widen(l, true) },
		numbers: func(l []int) []int { return widen(l, 77) },
		syms:    func(l []api.Sym) []api.Sym { return widen(l, term(77)) },
		edges:   func(l []api.Edge) []api.Edge { return widen(l, edge(77, term(77), 77)) },
		acts:    func(l []api.Action) []api.Action { return widen(l, to(77)) },
		items:   func(l []api.Item) []api.Item { return widen(l, item(77, 77, 77)) },
		prods:   func(l []api.Prod) []api.Prod { return widen(l, prod(77, term(77))) },
		rows:    func(l []api.Row) []api.Row { return widen(l, api.Row{Default: 77}) },
		lists:   func(l [][]int) [][]int { return widen(l, []int{77}) },
		past:    func(l [][]api.Sym) [][]api.Sym { return widen(l, syms(term(77))) },
		states:  func(l [][]api.Item) [][]api.Item { return widen(l, list(item(77, 77))) },
		deep:    func(l [][][]int) [][][]int { return widen(l, [][]int{{77}}) },
	}
}

func shown() hands {
	return hands{whole[string], whole[bool], whole[int], whole[api.Sym], whole[api.Edge], whole[api.Action], whole[api.Item], whole[api.Prod], whole[api.Row], whole[[]int], whole[[]api.Sym], whole[[]api.Item], whole[[][]int]}
}

func (h hands) listsOf(l [][]int) [][]int { return each(l, h.lists, h.numbers) }

func (h hands) itemsOf(l [][]api.Item) [][]api.Item {
	return each(l, h.states, func(l []api.Item) []api.Item {
		return each(l, h.items, func(i api.Item) api.Item {
			i.Look = h.numbers(i.Look)
			return i
		})
	})
}

// of is all that is handed in, made anew.
func (h hands) of(m made) made {
	g := m.grammar
	g.Terms, g.Nons = h.names(g.Terms), h.names(g.Nons)
	g.Prods = each(g.Prods, h.prods, func(p api.Prod) api.Prod {
		p.Right = h.syms(p.Right)
		return p
	})
	a := api.Automaton{States: h.itemsOf(m.automaton.States), Edges: h.edges(m.automaton.Edges)}
	y := api.Table{Rows: each(m.table.Rows, h.rows, func(row api.Row) api.Row {
		row.Acts, row.Gotos = h.acts(row.Acts), h.numbers(row.Gotos)
		return row
	})}
	c := m.cert
	c = api.Cert{Nullable: h.flags(c.Nullable), First: h.listsOf(c.First), Items: h.itemsOf(c.Items), Incoming: h.syms(c.Incoming), PastSyms: each(c.PastSyms, h.past, h.syms), PastStates: each(c.PastStates, h.deep, h.listsOf)}
	return made{g, a, y, c}
}

// answers are all lists that calls have answered, by what they are made of.
type answers struct {
	flags   [][]bool
	numbers [][]int
	syms    [][]api.Sym
	edges   [][]api.Edge
}

// spoil writes over a list and its room.
func spoil[T any](l []T, mark T) {
	for i := range l[:cap(l)] {
		l[:cap(l)][i] = mark
	}
}

// apart tells whether no two lists share memory: each is written over by a mark of its own, and must keep it.
func apart[T comparable](lists [][]T, mark func(n int) T) bool {
	for n := range lists {
		spoil(lists[n], mark(n))
	}
	for n := range lists {
		if !slices.Equal(whole(lists[n]), slices.Repeat([]T{mark(n)}, cap(lists[n]))) {
			return false
		}
	}
	return true
}

// take takes lists of lists apart; the outer ones are written over at once, the inner ones are kept.
func take[T any](all *[][]T, l [][]T) {
	*all = append(*all, l...)
	spoil(l, nil)
}

func (w *answers) items(l [][]api.Item) {
	for _, state := range l {
		for _, i := range state {
			w.numbers = append(w.numbers, i.Look)
		}
		spoil(state, item(-99, -99))
	}
	spoil(l, nil)
}

func (w *answers) states(l [][][]int) {
	for _, lists := range l {
		take(&w.numbers, lists)
	}
	spoil(l, nil)
}

func (w *answers) cert(c api.Cert) {
	w.flags, w.syms = append(w.flags, c.Nullable), append(w.syms, c.Incoming)
	take(&w.numbers, c.First)
	take(&w.syms, c.PastSyms)
	w.items(c.Items)
	w.states(c.PastStates)
}

// spoilAll writes over all that the calls answer, and tells whether no two of their lists share memory.
func spoilAll(m made) bool {
	var w answers
	for range 2 {
		l, _ := cert.Edges(m.grammar, m.table)
		incoming, _, _ := cert.Incoming(m.grammar, m.table)
		past, _, _ := cert.PastSyms(m.grammar, m.table)
		lists, _, _ := cert.PastStates(m.grammar, m.table)
		c, _ := cert.Make(m.grammar, m.automaton, m.table)
		a, _ := cert.Close(m.grammar, m.automaton)
		w.edges, w.syms = append(w.edges, l, a.Edges), append(w.syms, incoming)
		for state := range m.cert.Incoming {
			w.syms = append(w.syms, cert.Below(m.cert, state))
		}
		take(&w.syms, past)
		w.states(lists)
		w.cert(c)
		w.items(a.States)
	}
	cert.Shape(m.grammar, m.table, m.cert)
	cert.Within(m.cert, m.cert)
	return apart(w.numbers, func(n int) int { return -100 - n }) && apart(w.syms, func(n int) api.Sym { return term(-100 - n) }) &&
		apart(w.edges, func(n int) api.Edge { return edge(-100-n, x, 0) }) && apart(w.flags, func(n int) bool { return n%2 == 0 })
}

// P16.6: no call changes what is handed in, spare room too; answers share memory neither with it nor with each other, nor do two lists of one.
func TestMemory(t *testing.T) {
	r := rand.New(rand.NewSource(166))
	seen := 0
	for range 600 {
		m, ok := anyMade(r)
		if !ok {
			continue
		}
		seen++
		if r.Intn(2) == 0 { // lists in any order, of which Within makes sets
			for _, l := range slices.Concat(append(m.cert.PastStates, m.cert.First)...) {
				slices.Reverse(l)
			}
		}
		m = roomy().of(m)
		was := shown().of(m)
		if !spoilAll(m) {
			t.Fatal("two lists share memory:", m)
		}
		if !reflect.DeepEqual(shown().of(m), was) {
			t.Fatal("an argument was changed:", m)
		}
		heldOfTable(t, m.grammar, m.table)
		heldOfMake(t, m.grammar, m.automaton, m.table)
	}
	if seen < 200 {
		t.Error("too seldom:", seen)
	}
}

// P16.6: lists of an argument that share memory do not make lists of the answer share it.
func TestSharedArguments(t *testing.T) {
	g := nest()
	one := list(item(-1, 0, 3), item(0, 0, 3), item(1, 0, 3))
	one[1].Look, one[2].Look = one[0].Look, one[0].Look
	a := api.Automaton{States: slices.Repeat(states(one), 6)}
	c, e := cert.Make(g, a, nestRows())
	b, f := cert.Close(g, a)
	if e != api.OK || f != api.OK {
		t.Fatal(e, f)
	}
	for _, l := range [][][]api.Item{c.Items, b.States} {
		l[0][0].Look[0], l[1][1].Dot = 9, 9
		if l[0][1].Look[0] != 3 || len(l[1][0].Look) > 0 && l[1][0].Look[0] == 9 || l[2][1].Dot == 9 || one[0].Look[0] != 3 || one[1].Dot == 9 {
			t.Error("shared:", l, one)
		}
	}
}

// P3 of DOC.md: the same answers, asked again and again, side by side.
func TestAgain(t *testing.T) {
	r := rand.New(rand.NewSource(1660))
	for range 100 {
		m, ok := anyMade(r)
		if !ok {
			continue
		}
		want := must(cert.Close(m.grammar, m.automaton))
		done := make(chan bool)
		for range 4 {
			go func() {
				c, e := cert.Make(m.grammar, m.automaton, m.table)
				a, f := cert.Close(m.grammar, m.automaton)
				done <- e == api.OK && f == api.OK && sameCert(c, m.cert) && sameAutomaton(a, want)
			}()
		}
		for range 4 {
			if !<-done {
				t.Error("another answer:", m)
			}
		}
	}
}
