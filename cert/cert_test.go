package cert_test

import (
	"math"
	"math/rand"
	"slices"
	"testing"

	"gantry/api"
	"gantry/canon"
	"gantry/cert"
	"gantry/first"
	"gantry/grammar"
	"gantry/lookahead"
	"gantry/lrzero"
	"gantry/table"
)

// nest is S → ( S ), S → x.
func nest() api.Grammar {
	return api.Grammar{Terms: []string{"'('", "')'", "x"}, Nons: []string{"S"}, Prods: []api.Prod{prod(0, term(0), non(0), term(1)), prod(0, term(2))}}
}

var opens, closes, x, s = term(0), term(1), term(2), non(0)

// nestRows are the table of nest.
func nestRows() api.Table {
	return api.Table{Rows: []api.Row{
		looks(acts(to(1), fault, to(2), fault), 3),
		looks(acts(to(1), fault, to(2), fault), 4),
		looks(acts(fault, by(1), fault, by(1)), -1),
		looks(acts(fault, fault, fault, accept), -1),
		looks(acts(fault, to(5), fault, fault), -1),
		looks(acts(fault, by(0), fault, by(0)), -1),
	}}
}

// nestCert is the certificate of that table, written down.
func nestCert() api.Cert {
	return api.Cert{
		Nullable: []bool{false},
		First:    [][]int{{0, 2}},
		Items: states(
			list(item(-1, 0, 3), item(0, 0, 3), item(1, 0, 3)),
			list(item(0, 0, 1), item(0, 1, 1, 3), item(1, 0, 1)),
			list(item(1, 1, 1, 3)),
			list(item(-1, 1, 3)),
			list(item(0, 2, 1, 3)),
			list(item(0, 3, 1, 3)),
		),
		Incoming:   syms(api.Sym{}, opens, x, s, s, closes),
		PastSyms:   [][]api.Sym{nil, nil, nil, nil, {opens}, {s, opens}},
		PastStates: [][][]int{nil, {{0, 1}}, {{0, 1}}, {{0}}, {{1}, {0, 1}}, {{4}, {1}, {0, 1}}},
	}
}

// P16.1, P16.2 and P16.3: the chapter's examples, of a table with and without Defaults.
func TestNest(t *testing.T) {
	g, want := nest(), nestCert()
	a := must(canon.Merged(g))
	for _, y := range []api.Table{nestRows(), must(table.Defaults(g, nestRows()))} {
		if l, e := cert.Edges(g, y); e != api.OK || !slices.Equal(l, a.Edges) || len(l) != 7 {
			t.Error("Edges:", l, e)
		}
		if l, e, at := cert.Incoming(g, y); e != api.OK || at != 0 || !slices.Equal(l, want.Incoming) {
			t.Error("Incoming:", l, e, at)
		}
		if l, e, at := cert.PastSyms(g, y); e != api.OK || at != 0 || !sameSyms(l, want.PastSyms) {
			t.Error("PastSyms:", l, e, at)
		}
		if l, e, at := cert.PastStates(g, y); e != api.OK || at != 0 || !sameStates(l, want.PastStates) {
			t.Error("PastStates:", l, e, at)
		}
		if c, e := cert.Make(g, a, y); e != api.OK || !sameCert(c, want) {
			t.Error("Make:", c, e)
		}
		if e, at := cert.Shape(g, y, want); e != api.OK || at != 0 {
			t.Error("Shape:", e, at)
		}
	}
	if !cert.Within(want, want) {
		t.Error("Within")
	}
	for state, below := range [][]api.Sym{nil, {opens}, {x}, {s}, {s, opens}, {closes, s, opens}} {
		if l := cert.Below(want, state); !slices.Equal(l, below) {
			t.Error("Below:", state, l)
		}
	}
}

// P16.1: which actions and gotos are edges.
func TestEdges(t *testing.T) {
	g := grammarOf(2, 2, 0, prod(0, term(0)), prod(1))
	y := api.Table{Rows: []api.Row{
		looks(acts(to(1), by(1), to(2)), -1, 2),
		looks(acts(accept, to(0), by(0)), 0, 0),
		blind(1, 3, 1, -1),
		looks(acts(to(2), to(2), fault), 2, 2),
	}}
	want := edges(edge(0, term(0), 1), edge(0, non(1), 2), edge(1, term(1), 0), edge(1, non(0), 0), edge(1, non(1), 0), edge(2, non(0), 1),
		edge(3, term(0), 2), edge(3, term(1), 2), edge(3, non(0), 2), edge(3, non(1), 2))
	if l, e := cert.Edges(g, y); e != api.OK || !slices.Equal(l, want) {
		t.Error(l, e)
	}
}

// tableOf has just these edges.
func tableOf(g api.Grammar, rows int, l ...api.Edge) api.Table {
	var y api.Table
	for range rows {
		y.Rows = append(y.Rows, looks(make([]api.Action, len(g.Terms)+1), slices.Repeat([]int{-1}, len(g.Nons))...))
	}
	for _, z := range l {
		put(y, z)
	}
	return y
}

// P16.1: the lowest state whose symbol can't be told.
func TestIncoming(t *testing.T) {
	g := grammarOf(2, 2, 0, prod(0, term(0)), prod(1))
	a, b, p, q := term(0), term(1), non(0), non(1)
	for _, c := range []struct {
		about string
		table api.Table
		want  []api.Sym
		err   api.Errno
		at    int
	}{
		{"one state", tableOf(g, 1), syms(api.Sym{}), api.OK, 0},
		{"an edge to itself", tableOf(g, 1, edge(0, a, 0)), nil, api.ErrIncoming, 0},
		{"a goto to state 0", tableOf(g, 2, edge(0, a, 1), edge(1, p, 0)), nil, api.ErrIncoming, 0},
		{"one symbol from two states", tableOf(g, 2, edge(0, q, 1), edge(1, q, 1)), syms(api.Sym{}, q), api.OK, 0},
		{"a terminal and a nonterminal of one number", tableOf(g, 2, edge(0, a, 1), edge(0, p, 1)), nil, api.ErrIncoming, 1},
		{"two terminals", tableOf(g, 3, edge(0, a, 1), edge(0, b, 2), edge(1, a, 2)), nil, api.ErrIncoming, 2},
		{"two nonterminals", tableOf(g, 3, edge(0, p, 1), edge(2, q, 1), edge(1, a, 2)), nil, api.ErrIncoming, 1},
		{"unlike, and then like the first", tableOf(g, 2, edge(0, a, 1), edge(0, b, 1), edge(1, b, 1)), nil, api.ErrIncoming, 1},
		{"nothing comes in", tableOf(g, 3, edge(0, a, 2)), nil, api.ErrIncoming, 1},
		{"nothing comes into the last", tableOf(g, 3, edge(0, a, 1)), nil, api.ErrIncoming, 2},
		{"state 0 is the lowest", tableOf(g, 4, edge(0, a, 2), edge(0, b, 2), edge(2, a, 0)), nil, api.ErrIncoming, 0},
		{"nothing is lower than unlike", tableOf(g, 4, edge(0, a, 2), edge(0, b, 2)), nil, api.ErrIncoming, 1},
		{"unlike is lower than nothing", tableOf(g, 4, edge(0, a, 1), edge(0, b, 1), edge(1, p, 3)), nil, api.ErrIncoming, 1},
		{"a loop that is not reached", tableOf(g, 3, edge(1, a, 2), edge(2, b, 1)), syms(api.Sym{}, b, a), api.OK, 0},
		{"a shift under the end marker is none", api.Table{Rows: []api.Row{looks(acts(to(1), fault, to(0)), -1, -1), looks(acts(fault, fault, to(1)), -1, -1)}}, syms(api.Sym{}, a), api.OK, 0},
		{"a row with a Default has gotos", api.Table{Rows: []api.Row{looks(acts(to(1), fault, fault), -1, -1), blind(0, 3, 2, -1), blind(1, 3, -1, 1)}}, nil, api.ErrIncoming, 1},
	} {
		if l, e, at := cert.Incoming(g, c.table); e != c.err || at != c.at || !slices.Equal(l, c.want) {
			t.Error("Incoming:", c.about, l, e, at)
		}
		l, e, at := cert.PastSyms(g, c.table)
		if e != c.err || at != c.at || e != api.OK && len(l) > 0 {
			t.Error("PastSyms:", c.about, l, e, at)
		}
		m, e, at := cert.PastStates(g, c.table)
		if e != c.err || at != c.at || e != api.OK && len(m) > 0 {
			t.Error("PastStates:", c.about, m, e, at)
		}
		automaton := api.Automaton{States: make([][]api.Item, len(c.table.Rows))}
		if k, e := cert.Make(g, automaton, c.table); e != c.err || e != api.OK && !isNothing(k) {
			t.Error("Make:", c.about, k, e)
		}
		if _, e := cert.Edges(g, c.table); e != api.OK {
			t.Error("Edges:", c.about, e)
		}
	}
}

// P16.1: past symbols and states of loops, forks and chains.
func TestPast(t *testing.T) {
	g := grammarOf(4, 1, 0, prod(0, term(0)))
	a, b, c, d := term(0), term(1), term(2), term(3)
	for _, k := range []struct {
		about  string
		table  api.Table
		syms   [][]api.Sym
		states [][][]int
	}{
		{"one state", tableOf(g, 1), [][]api.Sym{nil}, [][][]int{nil}},
		{"a chain", tableOf(g, 4, edge(0, a, 1), edge(1, b, 2), edge(2, a, 3)),
			[][]api.Sym{nil, nil, {a}, {b, a}}, [][][]int{nil, {{0}}, {{1}, {0}}, {{2}, {1}, {0}}}},
		{"a chain that goes down", tableOf(g, 4, edge(0, a, 3), edge(3, b, 2), edge(2, a, 1)),
			[][]api.Sym{nil, {b, a}, {a}, nil}, [][][]int{nil, {{2}, {3}, {0}}, {{3}, {0}}, {{0}}}},
		{"two ways over like symbols", tableOf(g, 6, edge(0, a, 1), edge(0, b, 2), edge(1, c, 3), edge(2, c, 4), edge(3, d, 5), edge(4, d, 5)),
			[][]api.Sym{nil, nil, nil, {a}, {b}, {c}}, [][][]int{nil, {{0}}, {{0}}, {{1}, {0}}, {{2}, {0}}, {{3, 4}, {1, 2}}}},
		{"two ways of unlike lengths", tableOf(g, 4, edge(0, a, 1), edge(1, b, 2), edge(0, c, 3), edge(2, c, 3)),
			[][]api.Sym{nil, nil, {a}, nil}, [][][]int{nil, {{0}}, {{1}, {0}}, {{0, 2}}}},
		{"a loop to itself", tableOf(g, 3, edge(0, a, 1), edge(1, a, 1), edge(1, b, 2)),
			[][]api.Sym{nil, nil, {a}}, [][][]int{nil, {{0, 1}}, {{1}, {0, 1}}}},
		{"a loop of two", tableOf(g, 4, edge(0, a, 1), edge(1, b, 2), edge(2, a, 3), edge(3, b, 2)),
			[][]api.Sym{nil, nil, {a}, {b, a}}, [][][]int{nil, {{0}}, {{1, 3}, {0, 2}}, {{2}, {1, 3}, {0, 2}}}},
		{"a way in cuts a loop", tableOf(g, 4, edge(0, a, 1), edge(1, b, 2), edge(2, c, 3), edge(3, b, 2)),
			[][]api.Sym{nil, nil, nil, {b}}, [][][]int{nil, {{0}}, {{1, 3}}, {{2}, {1, 3}}}},
	} {
		if l, e, at := cert.PastSyms(g, k.table); e != api.OK || at != 0 || !sameSyms(l, k.syms) {
			t.Error("PastSyms:", k.about, l, e, at)
		}
		if l, e, at := cert.PastStates(g, k.table); e != api.OK || at != 0 || !sameStates(l, k.states) {
			t.Error("PastStates:", k.about, l, e, at)
		}
	}
}

// P16.1: no more than MaxRight past symbols; loops that are not reached have as many.
func TestLongPast(t *testing.T) {
	g := grammarOf(2, 1, 0, prod(0, term(0)))
	a, b := term(0), term(1)
	y := tableOf(g, 24, edge(21, a, 22), edge(22, b, 21), edge(23, b, 23))
	for q := range 20 {
		put(y, edge(q, term((q+1)%2), q+1))
	}
	past, lists := sure(cert.PastSyms(g, y)), sure(cert.PastStates(g, y))
	for q := 1; q <= 20; q++ {
		if n := min(q-1, 16); len(past[q]) != n || len(lists[q]) != n+1 {
			t.Error("chain:", q, past[q], lists[q])
		}
		for at, l := range lists[q] {
			if !slices.Equal(l, []int{q - at - 1}) || at < len(past[q]) && past[q][at] != term((q-at-1)%2) {
				t.Error("chain:", q, at, past[q], lists[q])
			}
		}
	}
	for _, c := range []struct {
		state       int
		first, next api.Sym
		back        [][]int
	}{
		{21, a, b, [][]int{{22}, {21}}}, {22, b, a, [][]int{{21}, {22}}}, {23, b, b, [][]int{{23}, {23}}},
	} {
		want := slices.Repeat(c.back, 9)[:17]
		if !slices.Equal(past[c.state], slices.Repeat(syms(c.first, c.next), 8)) || !sameLists(lists[c.state], want) {
			t.Error("loop:", c.state, past[c.state], lists[c.state])
		}
	}
	put(y, edge(23, a, 20)) // the chain's last state is reached from a loop, too, over symbols that are like the chain's once
	if l := sure(cert.PastSyms(g, y)); !slices.Equal(l[20], syms(b)) {
		t.Error("end:", l[20])
	}
	if l := sure(cert.PastStates(g, y)); !sameLists(l[20], [][]int{{19, 23}, {18, 23}}) {
		t.Error("end:", l[20])
	}
}

// heldOfTable holds all that is told of a table alone against the models.
func heldOfTable(t *testing.T, g api.Grammar, y api.Table) api.Errno {
	t.Helper()
	want, fault, place := modelIncoming(g, y)
	if l, e, at := cert.Incoming(g, y); e != fault || at != place || !slices.Equal(l, want) {
		t.Fatalf("Incoming(%v, %v): %v, %v, %d, want %v, %v, %d", g, y, l, e, at, want, fault, place)
	}
	past, _, _ := modelPastSyms(g, y)
	if l, e, at := cert.PastSyms(g, y); e != fault || at != place || !sameSyms(l, past) {
		t.Fatalf("PastSyms(%v, %v): %v, %v, %d, want %v, %v, %d", g, y, l, e, at, past, fault, place)
	}
	lists, _, _ := modelPastStates(g, y)
	if l, e, at := cert.PastStates(g, y); e != fault || at != place || !sameStates(l, lists) {
		t.Fatalf("PastStates(%v, %v): %v, %v, %d, want %v, %v, %d", g, y, l, e, at, lists, fault, place)
	}
	l, e := cert.Edges(g, y)
	if fault, _ := table.Shape(g, y); e != fault || e != api.OK && len(l) > 0 || e == api.OK && !slices.Equal(l, modelEdges(g, y)) {
		t.Fatalf("Edges(%v, %v): %v, %v", g, y, l, e)
	}
	return fault
}

// heldOfMake holds the certificate of a table against the model.
func heldOfMake(t *testing.T, g api.Grammar, a api.Automaton, y api.Table) (api.Cert, api.Errno) {
	t.Helper()
	c, e := cert.Make(g, a, y)
	if want, fault := modelMake(g, a, y); e != fault || !sameCert(c, want) {
		t.Fatalf("Make(%v, %v, %v): %v, %v, want %v, %v", g, a, y, c, e, want, fault)
	}
	if e == api.OK {
		heldOfCert(t, g, y, c)
	}
	return c, e
}

// heldOfCert holds what is asked of a certificate against the models.
func heldOfCert(t *testing.T, g api.Grammar, y api.Table, c api.Cert) api.Errno {
	t.Helper()
	e, at := cert.Shape(g, y, c)
	if want, place := modelShape(g, y, c); e != want || at != place {
		t.Fatalf("Shape(%v, %v, %v): %v, %d, want %v, %d", g, y, c, e, at, want, place)
	}
	for state := -1; state <= max(len(c.Incoming), len(c.PastSyms)); state++ {
		if l := cert.Below(c, state); !slices.Equal(l, modelBelow(c, state)) {
			t.Fatalf("Below(%v, %d): %v", c, state, l)
		}
	}
	return e
}

// P16.1: every table of at most three states, one terminal and one nonterminal.
func TestSmallTables(t *testing.T) {
	g := grammarOf(1, 1, 0, prod(0, term(0)))
	seen := map[api.Errno]int{}
	for rows := 1; rows <= 3; rows++ {
		each := (rows + 1) * (rows + 1)
		for n := range int(math.Pow(float64(each), float64(rows))) {
			y := tableOf(g, rows)
			for from := range rows {
				a, b := n%each%(rows+1), n%each/(rows+1)
				n /= each
				if a < rows {
					put(y, edge(from, term(0), a))
				}
				if b < rows {
					put(y, edge(from, non(0), b))
				}
			}
			seen[heldOfTable(t, g, y)]++
		}
	}
	if seen[api.OK] < 50 || seen[api.ErrIncoming] < 1000 {
		t.Error("too seldom:", seen)
	}
}

// P16.1 and P16.2: tables that no call made, and what is wrong with them.
func TestStrangeTables(t *testing.T) {
	r := rand.New(rand.NewSource(161))
	seen := map[api.Errno]int{}
	longest := map[int]int{}
	for range 20000 {
		g := anyGrammar(r, 3, 3, 4, 3)
		y := anyWeb(r, g, 2+r.Intn(24))
		if r.Intn(4) == 0 {
			y = turnedTable(r, g, y)
		}
		e := heldOfTable(t, g, y)
		a := anyAutomaton(r, g, 3, 3)
		if r.Intn(8) > 0 {
			a.States = slices.Repeat(a.States, len(y.Rows))[:len(y.Rows)]
		}
		if r.Intn(8) == 0 {
			a = turnedAutomaton(r, g, a)
		}
		c, made := heldOfMake(t, g, a, y)
		seen[made]++
		if e == api.OK && made == api.OK {
			for _, l := range c.PastSyms {
				longest[len(l)]++
			}
		}
	}
	for _, e := range []api.Errno{api.OK, api.ErrShape, api.ErrRange, api.ErrAction, api.ErrCert, api.ErrIncoming} {
		if seen[e] < 100 {
			t.Error("too seldom:", e, seen)
		}
	}
	for _, n := range []int{0, 1, 2, 5, 8, 16} {
		if longest[n] < 20 {
			t.Error("too seldom:", n, longest)
		}
	}
}

// P16.2: what Make refuses, and in which order.
func TestWrongMake(t *testing.T) {
	g := nest()
	good := must(canon.Merged(g))
	with := func(do func(a *api.Automaton)) api.Automaton {
		a := deep(good)
		do(&a)
		return a
	}
	unlike := nestRows()
	unlike.Rows[4].Gotos[0] = 5
	broken := nestRows()
	broken.Rows[1].Gotos = nil
	for _, c := range []struct {
		about string
		a     api.Automaton
		table api.Table
		want  api.Errno
	}{
		{"as it is", good, nestRows(), api.OK},
		{"without edges", api.Automaton{States: good.States}, nestRows(), api.OK},
		{"with edges that may not be", with(func(a *api.Automaton) { a.Edges[0] = edge(77, api.Sym{}, -1) }), nestRows(), api.OK},
		{"without items", api.Automaton{States: make([][]api.Item, 6)}, nestRows(), api.OK},
		{"one state too few", with(func(a *api.Automaton) { a.States = a.States[:5] }), nestRows(), api.ErrCert},
		{"one state too much", with(func(a *api.Automaton) { a.States = append(a.States, nil) }), nestRows(), api.ErrCert},
		{"no states", api.Automaton{}, nestRows(), api.ErrCert},
		{"an item that there is not", with(func(a *api.Automaton) { a.States[5][0].Dot = 4 }), nestRows(), api.ErrCert},
		{"a lookahead out of range", with(func(a *api.Automaton) { a.States[3][0].Look[0] = 4 }), nestRows(), api.ErrCert},
		{"lookaheads that do not rise", with(func(a *api.Automaton) { a.States[5][0].Look = []int{3, 1} }), nestRows(), api.ErrCert},
		{"cores that do not rise", with(func(a *api.Automaton) { slices.Reverse(a.States[0]) }), nestRows(), api.ErrCert},
		{"a core twice", with(func(a *api.Automaton) { a.States[5] = append(a.States[5], a.States[5][0]) }), nestRows(), api.ErrCert},
		{"a symbol that can't be told", good, unlike, api.ErrIncoming},
		{"items ahead of symbols", with(func(a *api.Automaton) { a.States[5][0].Dot = 4 }), unlike, api.ErrCert},
		{"states ahead of symbols", api.Automaton{}, unlike, api.ErrCert},
		{"the table ahead of items", with(func(a *api.Automaton) { a.States[5][0].Dot = 4 }), broken, api.ErrShape},
		{"the table ahead of states", api.Automaton{}, api.Table{}, api.ErrStates},
	} {
		k, e := cert.Make(g, c.a, c.table)
		if e != c.want || e != api.OK && !isNothing(k) {
			t.Error(c.about, k, e)
		}
	}
}

// change makes a certificate of nest's another one.
type change func(*api.Cert)

func changes(l ...change) []change { return l }

func setFirst(l ...int) change             { return func(c *api.Cert) { c.First[0] = l } }
func setItems(n int, l ...api.Item) change { return func(c *api.Cert) { c.Items[n] = l } }
func setIncoming(n int, s api.Sym) change  { return func(c *api.Cert) { c.Incoming[n] = s } }
func setSyms(n int, l ...api.Sym) change   { return func(c *api.Cert) { c.PastSyms[n] = l } }
func setStates(n int, l ...[]int) change   { return func(c *api.Cert) { c.PastStates[n] = l } }

// shaped is what Shape answers of nest's certificate with some changes.
type shaped struct {
	about string
	do    []change
	want  api.Errno
	at    int
}

func heldOfChanges(t *testing.T, g api.Grammar, cases []shaped) {
	t.Helper()
	for _, k := range cases {
		c := nestCert()
		for _, do := range k.do {
			do(&c)
		}
		if e, at := cert.Shape(g, nestRows(), c); e != k.want || at != k.at {
			t.Error(k.about, e, at)
		}
		heldOfCert(t, g, nestRows(), c)
	}
}

// P16.2: how many lists there are.
func TestWrongCounts(t *testing.T) {
	heldOfChanges(t, nest(), []shaped{
		{"as it is", nil, api.OK, 0},
		{"no nullable", changes(func(c *api.Cert) { c.Nullable = nil }), api.ErrCert, 0},
		{"one nullable too much", changes(func(c *api.Cert) { c.Nullable = []bool{false, false} }), api.ErrCert, 0},
		{"no first", changes(func(c *api.Cert) { c.First = nil }), api.ErrCert, 0},
		{"one first too much", changes(func(c *api.Cert) { c.First = append(c.First, nil) }), api.ErrCert, 0},
		{"one list of items too few", changes(func(c *api.Cert) { c.Items = c.Items[:5] }), api.ErrCert, 0},
		{"one list of items too much", changes(func(c *api.Cert) { c.Items = append(c.Items, nil) }), api.ErrCert, 0},
		{"one incoming too few", changes(func(c *api.Cert) { c.Incoming = c.Incoming[:5] }), api.ErrCert, 0},
		{"one incoming too much", changes(func(c *api.Cert) { c.Incoming = append(c.Incoming, x) }), api.ErrCert, 0},
		{"one list of past symbols too few", changes(func(c *api.Cert) { c.PastSyms = c.PastSyms[:5] }), api.ErrCert, 0},
		{"one list of past symbols too much", changes(func(c *api.Cert) { c.PastSyms = append(c.PastSyms, nil) }), api.ErrCert, 0},
		{"past states of one state too few", changes(func(c *api.Cert) { c.PastStates = c.PastStates[:5] }), api.ErrCert, 0},
		{"past states of one state too much", changes(func(c *api.Cert) { c.PastStates = append(c.PastStates, nil) }), api.ErrCert, 0},
		{"nothing", changes(func(c *api.Cert) { *c = api.Cert{} }), api.ErrCert, 0},
		{"counts ahead of states", changes(setItems(4, item(9, 9)), func(c *api.Cert) { c.PastStates = append(c.PastStates, nil) }), api.ErrCert, 0},
	})
}

// P16.2: what First and items may be.
func TestWrongFirst(t *testing.T) {
	heldOfChanges(t, nest(), []shaped{
		{"no first", changes(setFirst()), api.OK, 0},
		{"all terminals", changes(setFirst(0, 1, 2)), api.OK, 0},
		{"the end marker", changes(setFirst(0, 3)), api.ErrCert, 0},
		{"below", changes(setFirst(-1)), api.ErrCert, 0},
		{"twice", changes(setFirst(2, 2)), api.ErrCert, 0},
		{"falling", changes(setFirst(2, 0)), api.ErrCert, 0},
		{"the greatest", changes(setFirst(math.MaxInt)), api.ErrCert, 0},
		{"the greatest, and then the least", changes(setFirst(math.MaxInt, math.MinInt)), api.ErrCert, 0},
		{"first ahead of states", changes(setFirst(3), setItems(4, item(9, 9))), api.ErrCert, 0},
		{"no items", changes(setItems(0), setItems(5)), api.OK, 0},
		{"other items", changes(setItems(0, item(1, 1, 0, 1, 2, 3))), api.OK, 0},
		{"an item that there is not", changes(setItems(0, item(2, 0))), api.ErrCert, 0},
		{"a dot that there is not", changes(setItems(3, item(-1, 2))), api.ErrCert, 3},
		{"a lookahead out of range", changes(setItems(5, item(0, 3, 4))), api.ErrCert, 5},
		{"lookaheads that do not rise", changes(setItems(1, item(0, 3, 1, 1))), api.ErrCert, 1},
		{"cores that do not rise", changes(setItems(2, item(0, 3), item(0, 1))), api.ErrCert, 2},
	})
	g := grammarOf(2, 3, 0, prod(0, term(0)))
	y := tableOf(g, 1)
	for at, l := range [][]int{{2}, {1, 0}, {-1}} {
		c := api.Cert{Nullable: make([]bool, 3), First: make([][]int, 3), Items: states(nil), Incoming: make([]api.Sym, 1), PastSyms: make([][]api.Sym, 1), PastStates: make([][][]int, 1)}
		if e, place := cert.Shape(g, y, c); e != api.OK || place != 0 {
			t.Error("Shape:", e, place)
		}
		c.First[at] = l
		c.Incoming[0] = term(0)
		if e, place := cert.Shape(g, y, c); e != api.ErrCert || place != at {
			t.Error("Shape:", e, place, "want", at)
		}
	}
}

// P16.2: what comes in, and what is past.
func TestWrongPast(t *testing.T) {
	long := slices.Repeat(syms(x), 17)
	lists := slices.Repeat([][]int{{0}}, 18)
	heldOfChanges(t, nest(), []shaped{
		{"a symbol into state 0", changes(setIncoming(0, x)), api.ErrCert, 0},
		{"none into state 1", changes(setIncoming(1, api.Sym{})), api.ErrCert, 1},
		{"another symbol", changes(setIncoming(1, s), setIncoming(2, closes)), api.OK, 0},
		{"the end marker", changes(setIncoming(5, term(3))), api.ErrCert, 5},
		{"a nonterminal above", changes(setIncoming(5, non(1))), api.ErrCert, 5},
		{"a symbol of no kind", changes(setIncoming(5, api.Sym{Kind: 3})), api.ErrCert, 5},
		{"past symbols of state 0", changes(setSyms(0, x)), api.ErrCert, 0},
		{"past states of state 0", changes(setStates(0, []int{1})), api.ErrCert, 0},
		{"past states of state 0, of which there are none", changes(setStates(0, nil)), api.ErrCert, 0},
		{"both of state 0", changes(setSyms(0, x), setStates(0, nil, nil)), api.ErrCert, 0},
		{"empty lists of state 0", changes(setSyms(0, []api.Sym{}...), setStates(0, [][]int{}...)), api.OK, 0},
		{"as many past symbols as there may be", changes(setSyms(3, long[:16]...), setStates(3, lists[:17]...)), api.OK, 0},
		{"one more", changes(setSyms(3, long...), setStates(3, lists...)), api.ErrCert, 3},
		{"the end marker is past", changes(setSyms(4, term(3))), api.ErrCert, 4},
		{"nothing is past", changes(setSyms(4, api.Sym{})), api.ErrCert, 4},
		{"a past nonterminal above", changes(setSyms(5, s, non(1))), api.ErrCert, 5},
		{"other past symbols", changes(setSyms(5, x, x)), api.OK, 0},
		{"past symbols without states", changes(setSyms(5, s, opens, x)), api.ErrCert, 5},
		{"past states without symbols", changes(setSyms(5, s)), api.ErrCert, 5},
		{"no past states", changes(setStates(1)), api.ErrCert, 1},
		{"one too few", changes(setStates(5, []int{4}, []int{1})), api.ErrCert, 5},
		{"one too much", changes(setStates(3, []int{0}, []int{0})), api.ErrCert, 3},
		{"past states of which there are none", changes(setStates(4, nil, nil)), api.OK, 0},
		{"all past states", changes(setStates(4, []int{0, 1, 2, 3, 4, 5}, []int{0, 5})), api.OK, 0},
		{"a past state above", changes(setStates(4, []int{1}, []int{0, 6})), api.ErrCert, 4},
		{"a past state below", changes(setStates(4, []int{-1}, nil)), api.ErrCert, 4},
		{"a past state twice", changes(setStates(2, []int{1, 1})), api.ErrCert, 2},
		{"past states that fall", changes(setStates(2, []int{1, 0})), api.ErrCert, 2},
		{"the greatest past state", changes(setStates(2, []int{0, math.MaxInt})), api.ErrCert, 2},
		{"the lowest state is told", changes(setIncoming(4, api.Sym{}), setStates(2, []int{1, 0}), setItems(5, item(9, 9))), api.ErrCert, 2},
		{"items of a higher state", changes(setItems(5, item(9, 9)), setSyms(4, term(3))), api.ErrCert, 4},
	})
}

// P16.2: grammar and table are asked ahead of the certificate; a row's place is told.
func TestWrongTables(t *testing.T) {
	g, a := nest(), must(canon.Merged(nest()))
	for _, c := range []struct {
		about string
		do    func(y *api.Table)
		want  api.Errno
		at    int
	}{
		{"no rows", func(y *api.Table) { y.Rows = nil }, api.ErrStates, 0},
		{"too many rows", func(y *api.Table) { y.Rows = slices.Repeat(y.Rows[5:], 2049) }, api.ErrStates, 0},
		{"one action too few", func(y *api.Table) { y.Rows[5].Acts = y.Rows[5].Acts[:3] }, api.ErrShape, 5},
		{"no gotos", func(y *api.Table) { y.Rows[2].Gotos = nil }, api.ErrShape, 2},
		{"a shift above", func(y *api.Table) { y.Rows[1].Acts[0] = to(6) }, api.ErrRange, 1},
		{"a goto below", func(y *api.Table) { y.Rows[4].Gotos[0] = -2 }, api.ErrRange, 4},
		{"a Default and shifts", func(y *api.Table) { y.Rows[4].Default = 1 }, api.ErrAction, 4},
	} {
		y := nestRows()
		c.do(&y)
		for _, k := range []api.Cert{nestCert(), {}} {
			if e, at := cert.Shape(g, y, k); e != c.want || at != c.at {
				t.Error("Shape:", c.about, e, at)
			}
		}
		if e := heldOfTable(t, g, y); e != c.want {
			t.Error(c.about, e)
		}
		if _, e, at := cert.Incoming(g, y); e != c.want || at != c.at {
			t.Error("Incoming:", c.about, e, at)
		}
		for _, b := range []api.Automaton{a, {}} {
			if k, e := cert.Make(g, b, y); e != c.want || !isNothing(k) {
				t.Error("Make:", c.about, k, e)
			}
		}
	}
}

// P16.1, P16.2 and P16.7: a grammar that may not be is told ahead of all else, with place 0.
func TestWrongGrammars(t *testing.T) {
	good := must(canon.Merged(nest()))
	for _, do := range []func(g *api.Grammar){
		func(g *api.Grammar) { *g = api.Grammar{} },
		func(g *api.Grammar) { g.Nons = nil },
		func(g *api.Grammar) { g.Terms[1] = "S" },
		func(g *api.Grammar) { g.Start = math.MinInt },
		func(g *api.Grammar) { g.Prods = nil },
		func(g *api.Grammar) { g.Prods[1].Left = -1 },
		func(g *api.Grammar) { g.Prods[1].Right = syms(term(3)) },
		func(g *api.Grammar) { g.Prods[0].Right = slices.Repeat(syms(term(0)), 17) },
		func(g *api.Grammar) { g.Prods[1] = g.Prods[0] },
		func(g *api.Grammar) { g.Prods[1].Prec = 9 },
		func(g *api.Grammar) { g.Levels = []api.Level{{}} },
	} {
		g := nest()
		do(&g)
		want, _ := grammar.Check(g)
		if want == api.OK {
			t.Fatal("a grammar that may be:", g)
		}
		for _, y := range []api.Table{nestRows(), {}, {Rows: make([]api.Row, 3)}} {
			if e := heldOfTable(t, g, y); e != want {
				t.Errorf("%v: %v", g, e)
			}
			if e, at := cert.Shape(g, y, nestCert()); e != want || at != 0 {
				t.Errorf("Shape(%v): %v, %d", g, e, at)
			}
			if c, e := cert.Make(g, good, y); e != want || !isNothing(c) {
				t.Errorf("Make(%v): %v, %v", g, c, e)
			}
		}
		for _, a := range []api.Automaton{good, {}, {States: states(list(item(9, 9))), Edges: edges(edge(7, term(7), 7))}} {
			if b, e := cert.Close(g, a); e != want || len(b.States)+len(b.Edges) > 0 {
				t.Errorf("Close(%v): %v, %v", g, b, e)
			}
		}
	}
}

// P16.3: of certificates of any shape, and states of any number.
func TestBelow(t *testing.T) {
	c := api.Cert{Incoming: syms(x, s, api.Sym{}, api.Sym{Kind: -7, N: 9}, opens), PastSyms: [][]api.Sym{{s}, {x, api.Sym{Kind: 5}}, {opens}, nil}}
	for _, k := range []struct {
		state int
		want  []api.Sym
	}{
		{0, nil}, {1, syms(s, x, api.Sym{Kind: 5})}, {2, syms(api.Sym{}, opens)}, {3, syms(api.Sym{Kind: -7, N: 9})}, {4, nil}, {5, nil}, {-1, nil}, {math.MaxInt, nil}, {math.MinInt, nil},
	} {
		if l := cert.Below(c, k.state); !slices.Equal(l, k.want) {
			t.Error(k.state, l)
		}
		if l := cert.Below(api.Cert{Incoming: c.Incoming}, k.state); len(l) > 0 {
			t.Error("without PastSyms:", k.state, l)
		}
		if l := cert.Below(api.Cert{PastSyms: c.PastSyms}, k.state); len(l) > 0 {
			t.Error("without Incoming:", k.state, l)
		}
		if l := cert.Below(api.Cert{}, k.state); len(l) > 0 {
			t.Error("of nothing:", k.state, l)
		}
	}
	long := api.Cert{Incoming: syms(x, x), PastSyms: [][]api.Sym{nil, slices.Repeat(syms(s), 99)}}
	if l := cert.Below(long, 1); len(l) != 100 {
		t.Error("of 99:", l)
	}
}

// P16.3: one thing after another in which the second claims more, or less.
func TestWithin(t *testing.T) {
	for _, k := range []struct {
		about string
		do    change
		want  bool // nest's, and then the changed one
		back  bool // the other way round
	}{
		{"the same", func(*api.Cert) {}, true, true},
		{"a nullable more", func(c *api.Cert) { c.Nullable[0] = true }, true, false},
		{"a first more", setFirst(0, 1, 2), true, false},
		{"a first less", setFirst(0), false, true},
		{"another first", setFirst(0, 1), false, false},
		{"first as sets", setFirst(2, 0, 2, 0), true, true},
		{"a first of any number", setFirst(math.MaxInt, 2, 0, -5), true, false},
		{"an item more", setItems(2, item(0, 0), item(1, 1, 1, 3)), true, false},
		{"an item less", setItems(2), false, true},
		{"a lookahead more", setItems(2, item(1, 1, 0, 1, 3)), true, false},
		{"a lookahead less", setItems(2, item(1, 1, 3)), false, true},
		{"items in any order", setItems(0, item(1, 0, 3), item(0, 0, 3), item(-1, 0, 3), item(0, 0, 3)), true, true},
		{"another incoming", setIncoming(1, x), false, false},
		{"incoming of state 0", setIncoming(0, x), false, false},
		{"past symbols less", setSyms(5, s), true, false},
		{"no past symbols", setSyms(5), true, false},
		{"past symbols more", setSyms(5, s, opens, opens), false, true},
		{"other past symbols", setSyms(5, s, x), false, false},
		{"past symbols of another state", setSyms(3, x), false, true},
		{"past states more", setStates(5, []int{4}, []int{0, 1}, []int{0, 1}), true, false},
		{"past states less", setStates(5, []int{4}, []int{1}, []int{1}), false, true},
		{"other past states", setStates(5, []int{3}, []int{1}, []int{0, 1}), false, false},
		{"fewer lists of past states", setStates(5, []int{4}, []int{1}), true, false},
		{"fewer lists, one of them less", setStates(5, []int{4}, nil), false, false},
		{"fewer lists, one of them more", setStates(5, []int{3, 4}, []int{1}), true, false},
		{"no lists of past states", setStates(5), true, false},
		{"more lists of past states", setStates(5, []int{4}, []int{1}, []int{0, 1}, nil), false, true},
		{"past states as sets", setStates(5, []int{4, 4}, []int{1}, []int{1, 0, 0}), true, true},
		{"past states of any number", setStates(1, []int{math.MinInt, 1, math.MaxInt, 0}), true, false},
		{"more nullables", func(c *api.Cert) { c.Nullable = append(c.Nullable, false) }, false, false},
		{"more firsts", func(c *api.Cert) { c.First = append(c.First, nil) }, false, false},
		{"fewer items", func(c *api.Cert) { c.Items = c.Items[:5] }, false, false},
		{"fewer incomings", func(c *api.Cert) { c.Incoming = c.Incoming[:5] }, false, false},
		{"more past symbols", func(c *api.Cert) { c.PastSyms = append(c.PastSyms, nil) }, false, false},
		{"more past states", func(c *api.Cert) { c.PastStates = append(c.PastStates, nil) }, false, false},
		{"nothing", func(c *api.Cert) { *c = api.Cert{} }, false, false},
		{"nil and empty lists", func(c *api.Cert) { c.PastSyms[0], c.PastStates[0] = []api.Sym{}, [][]int{} }, true, true},
	} {
		a, b := nestCert(), nestCert()
		k.do(&b)
		if cert.Within(a, b) != k.want || modelWithin(a, b) != k.want {
			t.Error(k.about)
		}
		if cert.Within(b, a) != k.back || modelWithin(b, a) != k.back {
			t.Error("the other way round:", k.about)
		}
		if !cert.Within(b, b) {
			t.Error("itself:", k.about)
		}
	}
	if !cert.Within(api.Cert{}, api.Cert{First: [][]int{}}) {
		t.Error("of nothing")
	}
}

// P16.2 and P16.3: certificates with some things changed, alone and side by side.
func TestTurnedCerts(t *testing.T) {
	r := rand.New(rand.NewSource(163))
	seen, within := map[api.Errno]int{}, map[bool]int{}
	for range 6000 {
		g := anyGrammar(r, 3, 3, 4, 3)
		y := anyWeb(r, g, 8)
		a := anyAutomaton(r, g, 3, 3)
		a.States = slices.Repeat(a.States, len(y.Rows))[:len(y.Rows)]
		c, e := cert.Make(g, a, y)
		if e != api.OK {
			continue
		}
		other := c
		for range 1 + r.Intn(3) {
			other = turnedCert(r, g, other)
		}
		seen[heldOfCert(t, g, y, other)]++
		for _, k := range [][2]api.Cert{{c, other}, {other, c}, {other, turnedCert(r, g, other)}} {
			is := cert.Within(k[0], k[1])
			if is != modelWithin(k[0], k[1]) {
				t.Fatalf("Within(%v, %v): %v", k[0], k[1], is)
			}
			within[is]++
		}
	}
	if seen[api.OK] < 500 || seen[api.ErrCert] < 500 || within[true] < 1000 || within[false] < 1000 {
		t.Error("too seldom:", seen, within)
	}
}

// assign is S → L = R, S → R, L → * R, L → x, R → L.
func assign() api.Grammar {
	return grammarOf(3, 3, 0, prod(0, non(1), term(0), non(2)), prod(0, non(2)), prod(1, term(1), non(2)), prod(1, term(2)), prod(2, non(1)))
}

// P16.7: what is closed and what is not, by hand.
func TestClose(t *testing.T) {
	b := non(1)
	g := grammarOf(2, 3, 0, prod(0, b, non(2), term(0)), prod(1, term(1)), prod(1), prod(2), prod(2, term(1), b), prod(0, b))
	for _, c := range []struct {
		about string
		l     []api.Edge
		in    [][]api.Item
		out   [][]api.Item
	}{
		{"the start", nil, states(list(item(-1, 0))), states(list(item(-1, 0, 2)))},
		{"lookaheads that it has do not count", nil, states(list(item(-1, 0, 0, 1), item(1, 0, 1), item(4, 1, 0))), states(list(item(-1, 0, 2), item(1, 0), item(4, 1)))},
		{"no start", nil, states(list(item(0, 0))), states(list(item(0, 0)))},
		{"the start of another state", nil, states(nil, list(item(-1, 0), item(5, 0))), states(nil, list(item(-1, 0), item(5, 0)))},
		{"the start behind its dot", nil, states(list(item(-1, 1))), states(list(item(-1, 1)))},
		{"start's productions", nil, states(list(item(-1, 0), item(0, 0), item(5, 0))), states(list(item(-1, 0, 2), item(0, 0, 2), item(5, 0, 2)))},
		{"productions that are there alone", nil, states(list(item(-1, 0), item(1, 0), item(5, 0))), states(list(item(-1, 0, 2), item(1, 0, 2), item(5, 0, 2)))},
		{"what stands behind", nil, states(list(item(0, 0), item(1, 0), item(2, 0))), states(list(item(0, 0), item(1, 0, 0, 1), item(2, 0, 0, 1)))},
		{"of no lookaheads", nil, states(list(item(1, 0), item(4, 1), item(5, 0))), states(list(item(1, 0), item(4, 1), item(5, 0)))},
		{"what stands behind, and lookaheads", nil, states(list(item(-1, 0), item(0, 1), item(1, 0), item(3, 0), item(4, 0), item(5, 0))), states(list(item(-1, 0, 2), item(0, 1), item(1, 0, 2), item(3, 0, 0), item(4, 0, 0), item(5, 0, 2)))},
		{"over an edge", edges(edge(0, non(0), 1)), states(list(item(-1, 0)), list(item(-1, 1))), states(list(item(-1, 0, 2)), list(item(-1, 1, 2)))},
		{"over an edge of another symbol", edges(edge(0, non(1), 1)), states(list(item(-1, 0)), list(item(-1, 1))), states(list(item(-1, 0, 2)), list(item(-1, 1)))},
		{"without an edge", nil, states(list(item(-1, 0)), list(item(-1, 1))), states(list(item(-1, 0, 2)), list(item(-1, 1)))},
		{"to what is not there", edges(edge(0, non(0), 1)), states(list(item(-1, 0)), list(item(0, 1), item(5, 1))), states(list(item(-1, 0, 2)), list(item(0, 1), item(5, 1)))},
		{"over an edge to itself", edges(edge(0, non(0), 0), edge(0, b, 0)), states(list(item(-1, 0), item(-1, 1), item(5, 0), item(5, 1))), states(list(item(-1, 0, 2), item(-1, 1, 2), item(5, 0, 2), item(5, 1, 2)))},
		{"round a loop", edges(edge(0, b, 1), edge(1, term(1), 0)), states(list(item(-1, 0), item(0, 0), item(4, 1), item(1, 0)), list(item(0, 1), item(4, 0))), nil},
	} {
		if c.out == nil { // cores in order, and what the model tells
			for _, l := range c.in {
				slices.SortFunc(l, compareCores)
			}
			c.out = must(modelClose(g, api.Automaton{States: c.in, Edges: c.l})).States
		}
		a := api.Automaton{States: c.in, Edges: c.l}
		if k, e := cert.Close(g, a); e != api.OK || !sameAutomaton(k, api.Automaton{States: c.out, Edges: c.l}) {
			t.Error(c.about, k, e)
		}
		heldOfClose(t, g, a)
	}
}

func heldOfClose(t *testing.T, g api.Grammar, a api.Automaton) api.Errno {
	t.Helper()
	k, e := cert.Close(g, a)
	if want, fault := modelClose(g, a); e != fault || !sameAutomaton(k, want) {
		t.Fatalf("Close(%v, %v): %v, %v, want %v, %v", g, a, k, e, want, fault)
	}
	return e
}

// P16.7: automata of calls and of nobody, some things of them changed.
func TestStrangeAutomata(t *testing.T) {
	r := rand.New(rand.NewSource(167))
	seen := map[api.Errno]int{}
	for range 4000 {
		g := anyGrammar(r, 3, 3, 5, 3)
		a := anyAutomaton(r, g, 5, 12)
		if z := must(lrzero.Build(g)); r.Intn(2) == 0 && len(z.States) < 16 {
			a = z
		}
		for range r.Intn(4) {
			a = turnedAutomaton(r, g, a)
		}
		seen[heldOfClose(t, g, a)]++
	}
	for _, e := range []api.Errno{api.OK, api.ErrItem, api.ErrRange, api.ErrOrder} {
		if seen[e] < 30 {
			t.Error("too seldom:", e, seen)
		}
	}
}

// P16.7: each fault of an automaton, as canon.Check tells it.
func TestWrongAutomata(t *testing.T) {
	g := nest()
	good := must(lrzero.Build(g))
	for _, c := range []struct {
		about string
		do    func(a *api.Automaton)
		want  api.Errno
	}{
		{"as it is", func(*api.Automaton) {}, api.OK},
		{"no states", func(a *api.Automaton) { a.States = nil }, api.ErrStates},
		{"as many states as there may be", func(a *api.Automaton) { a.States = append(a.States, make([][]api.Item, 2042)...) }, api.OK},
		{"one more", func(a *api.Automaton) { a.States = append(a.States, make([][]api.Item, 2043)...) }, api.ErrStates},
		{"an item that there is not", func(a *api.Automaton) { a.States[5][0].Prod = 2 }, api.ErrItem},
		{"a lookahead out of range", func(a *api.Automaton) { a.States[5][0].Look = []int{4} }, api.ErrRange},
		{"lookaheads that do not rise", func(a *api.Automaton) { a.States[5][0].Look = []int{1, 1} }, api.ErrOrder},
		{"items that do not rise", func(a *api.Automaton) { slices.Reverse(a.States[0]) }, api.ErrOrder},
		{"an edge to no state", func(a *api.Automaton) { a.Edges[6].To = 6 }, api.ErrRange},
		{"an edge over the end marker", func(a *api.Automaton) { a.Edges[6].Sym.N = 3 }, api.ErrSymbol},
		{"edges that do not rise", func(a *api.Automaton) { slices.Reverse(a.Edges) }, api.ErrOrder},
		{"an edge twice", func(a *api.Automaton) { a.Edges = append(a.Edges, a.Edges[6]) }, api.ErrOrder},
	} {
		a := deep(good)
		c.do(&a)
		if k, e := cert.Close(g, a); e != c.want || e != api.OK && len(k.States)+len(k.Edges) > 0 {
			t.Error(c.about, k, e)
		}
	}
}

// P16.1 to P16.3 and P16.7: every small grammar.
func TestSmallGrammars(t *testing.T) {
	seen := map[api.Errno]int{}
	eachSmall(func(g api.Grammar) {
		a := must(lookahead.Attach(g))
		y, _, _, e := table.Build(g, a)
		if e != api.OK {
			t.Fatal(e)
		}
		heldOfTable(t, g, y)
		_, e = heldOfMake(t, g, a, y)
		seen[e]++
		heldOfClose(t, g, a)
	})
	if seen[api.OK] < 1000 {
		t.Error("too seldom:", seen)
	}
}

func FuzzGrammars(f *testing.F) {
	f.Add([]byte{0, 3, 1, 3, 255, 0, 0, 255, 0, 3, 2, 3}, int64(1))
	f.Add([]byte{1, 2, 0, 255, 0, 3, 4, 255, 2, 5, 5, 1}, int64(2))
	f.Fuzz(func(t *testing.T, b []byte, seed int64) {
		r := rand.New(rand.NewSource(seed))
		g := grammarOf(3, 3, 0)
		for i := 0; i < len(b) && i < 24; i++ {
			p := prod(int(b[i] % 3))
			for i++; i < len(b) && b[i] < 200 && len(p.Right) < 4; i++ {
				p.Right = append(p.Right, symbolsOf(g)[b[i]%6])
			}
			g.Prods = append(g.Prods, p)
		}
		if !wellEnough(g) {
			return
		}
		y := anyWeb(r, g, 24)
		heldOfTable(t, g, turnedTable(r, g, y))
		a := must(lrzero.Build(g))
		if len(a.States) < 40 {
			heldOfClose(t, g, turnedAutomaton(r, g, a))
			heldOfMake(t, g, a, sameRows(g, a))
		}
	})
}

// sameRows is the table of an automaton.
func sameRows(g api.Grammar, a api.Automaton) api.Table {
	y, _, _, e := table.Build(g, a)
	return must(y, e)
}

// P16.1 and P16.2: as many symbols, productions and states as there may be, and edges from each state over each symbol.
func TestGreatest(t *testing.T) {
	const rows = 2048
	g := grammarOf(64, 64, 63)
	for p := range 256 {
		g.Prods = append(g.Prods, prod(p%64, slices.Repeat(syms(term(p%64), non(p/4)), 8)[:p/64+12]...))
	}
	all := symbolsOf(g)
	y := tableOf(g, rows)
	// States 1 to 128 have a symbol each, all others the first, by which they form a loop that goes down; from all of these the others are reached.
	for from := range rows {
		for n, s := range all[1:] {
			put(y, edge(from, s, 2+n))
		}
		switch {
		case from == rows-1:
			put(y, edge(from, all[0], rows-2))
		case from == 129:
			put(y, edge(from, all[0], rows-1))
		case from > 129:
			put(y, edge(from, all[0], from-1))
		default:
			put(y, edge(from, all[0], 1))
		}
	}
	a := api.Automaton{States: make([][]api.Item, rows)}
	for n := range a.States {
		a.States[n] = list(item(n%256, n/256, n%65))
	}
	c, e := cert.Make(g, a, y)
	if e != api.OK {
		t.Fatal(e)
	}
	if e, at := cert.Shape(g, y, c); e != api.OK || at != 0 {
		t.Error("Shape:", e, at)
	}
	for state := 129; state < rows; state++ {
		if !slices.Equal(c.PastSyms[state], slices.Repeat(all[:1], 16)) || len(c.PastStates[state]) != 17 {
			t.Fatal(state, c.PastSyms[state], c.PastStates[state])
		}
		for at, l := range c.PastStates[state] {
			if want := 129 + (state-129+at+1)%(rows-129); !slices.Equal(l, []int{want}) {
				t.Fatal(state, at, l, want)
			}
		}
	}
	for state := 1; state < 129; state++ {
		if n := len(c.PastStates[state][0]); len(c.PastSyms[state]) != 0 || state > 1 && n != rows || state == 1 && n != 129 {
			t.Fatal(state, c.PastSyms[state], n)
		}
	}
	if !cert.Within(c, c) {
		t.Error("Within itself")
	}
	if n, _ := first.Nullable(g); !slices.Equal(c.Nullable, n) {
		t.Error("Nullable:", c.Nullable)
	}
}
