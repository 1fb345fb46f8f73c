package table_test

import (
	"math"
	"math/rand"
	"slices"
	"testing"

	"gantry/api"
	"gantry/canon"
	"gantry/grammar"
	"gantry/lookahead"
	"gantry/table"
)

// nest is S → ( S ), S → x.
func nest() api.Grammar {
	return api.Grammar{Terms: []string{"'('", "')'", "x"}, Nons: []string{"S"}, Prods: []api.Prod{prod(0, term(0), non(0), term(1)), prod(0, term(2))}}
}

// nestRows are the table of nest.
func nestRows() api.Table {
	return api.Table{Rows: []api.Row{
		looks(acts(to(1), fault, to(2), fault), 3),
		looks(acts(to(1), fault, to(2), fault), 4),
		looks(acts(fault, by(1), fault, by(1)), -1),
		looks(acts(fault, fault, fault, accept), -1),
		looks(acts(fault, to(5), fault, fault), -1),
		looks(acts(fault, by(0), fault, by(0)), -1),
	}}
}

// sum is E → E + E, E → n, with these levels.
func sum(levels ...api.Level) api.Grammar {
	return api.Grammar{Terms: []string{"'+'", "n"}, Nons: []string{"E"}, Prods: []api.Prod{prod(0, non(0), term(0), non(0)), prod(0, term(1))}, Levels: levels}
}

func build(g api.Grammar, a api.Automaton) built {
	var b built
	b.table, b.undecided, b.decided, b.err = table.Build(g, a)
	return b
}

// P15.2 and P15.3: a table row by row, whichever of the three automata it is made of.
func TestNest(t *testing.T) {
	g := nest()
	want := nestRows()
	for _, a := range []api.Automaton{must(lookahead.Attach(g)), must(canon.Merged(g))} {
		if b := build(g, a); !sameBuilt(b, built{table: want}) {
			t.Error("Build:", b)
		}
		if l, e := table.Conflicts(g, a); e != api.OK || len(l) != 0 {
			t.Error("Conflicts:", l, e)
		}
	}
	if b := build(g, must(canon.Canonical(g))); b.err != api.OK || len(b.table.Rows) != 10 || len(b.undecided)+len(b.decided) != 0 {
		t.Error("of Knuth's:", b)
	}
	want.Rows[2], want.Rows[5] = blind(1, 4, -1), blind(0, 4, -1)
	if x, e := table.Defaults(g, nestRows()); e != api.OK || !same(x, want) {
		t.Error("Defaults:", x, e)
	}
}

// P15.1 and P15.2: the chapter's example, and what other levels make of it.
func TestSum(t *testing.T) {
	conflict := []api.Conflict{clash(4, 0, 3, 0)}
	for _, c := range []struct {
		about              string
		levels             []api.Level
		want               api.Action
		undecided, decided []api.Conflict
	}{
		{"no level", nil, to(3), conflict, nil},
		{"a level of another terminal", []api.Level{left(1)}, to(3), conflict, nil},
		{"left", []api.Level{left(0)}, by(0), nil, conflict},
		{"right", []api.Level{right(0)}, to(3), nil, conflict},
		{"neither", []api.Level{neither(0)}, fault, nil, conflict},
	} {
		g := sum(c.levels...)
		want := built{undecided: c.undecided, decided: c.decided, table: api.Table{Rows: []api.Row{
			looks(acts(fault, to(1), fault), 2),
			looks(acts(by(1), fault, by(1)), -1),
			looks(acts(to(3), fault, accept), -1),
			looks(acts(fault, to(1), fault), 4),
			looks(acts(c.want, fault, by(0)), -1),
		}}}
		for _, a := range []api.Automaton{must(lookahead.Attach(g)), must(canon.Merged(g))} {
			if b := build(g, a); !sameBuilt(b, want) {
				t.Error(c.about, b)
			}
			if l, e := table.Conflicts(g, a); e != api.OK || !sameConflicts(l, conflict) {
				t.Error(c.about, l, e)
			}
		}
	}
}

// P15.2: where nothing is decided the shift is taken, else acceptance, else the lowest production.
func TestUndecided(t *testing.T) {
	g := grammarOf(2, 2, 0, prod(0, term(0)), prod(1), prod(1, non(0)))
	g.Levels = []api.Level{left(0)}
	a := api.Automaton{
		States: states(
			list(item(-1, 0, 0), item(0, 0, 0, 1), item(1, 0, 0, 2)),
			list(item(-1, 1, 0, 1, 2), item(0, 1, 1, 2), item(1, 0, 2), item(2, 1, 2)),
			list(item(2, 1)),
			list(item(0, 1, 2), item(1, 0, 1, 2)),
		),
		Edges: edges(edge(0, term(0), 0), edge(0, term(1), 1), edge(0, non(0), 2), edge(1, term(0), 3), edge(1, non(1), 3), edge(2, term(1), 0)),
	}
	want := built{
		table: api.Table{Rows: []api.Row{
			looks(acts(to(0), to(1), by(1)), 2, -1),
			looks(acts(to(3), accept, accept), -1, 3),
			looks(acts(fault, to(0), fault), -1, -1),
			looks(acts(fault, by(1), by(0)), -1, -1),
		}},
		undecided: []api.Conflict{clash(0, 0, 0, 1), clash(1, 0, 3, -1), clash(1, 1, -1, -1, 0), clash(1, 2, -1, -1, 0, 1, 2), clash(3, 2, -1, 0, 1)},
	}
	if b := build(g, a); !sameBuilt(b, want) {
		t.Error("Build:", b)
	}
	if l, e := table.Conflicts(g, a); e != api.OK || !sameConflicts(l, want.undecided) {
		t.Error("Conflicts:", l, e)
	}
}

// P15.2: of several conflicts of one state some are decided, and some are not.
func TestSomeDecided(t *testing.T) {
	e := non(0)
	g := grammarOf(4, 1, 0, prod(0, e, term(0), e), prod(0, e, term(1), e), prod(0, e, e), prod(0, term(2)))
	g.Levels = []api.Level{left(0), neither(1)}
	a := api.Automaton{
		States: states(nil, list(item(0, 3, 0, 1, 2, 3, 4), item(1, 3, 1, 4), item(2, 2, 2)), list(item(1, 3, 0, 1, 2), item(0, 3, 0))),
		Edges:  edges(edge(2, term(1), 0), edge(2, term(0), 1), edge(1, term(2), 0), edge(1, term(1), 0), edge(1, term(0), 2)),
	}
	want := built{
		table: api.Table{Rows: []api.Row{
			looks(acts(fault, fault, fault, fault, fault), -1),
			looks(acts(by(0), fault, to(0), by(0), by(0)), -1),
			looks(acts(to(1), fault, by(1), fault, fault), -1),
		}},
		undecided: []api.Conflict{clash(1, 2, 0, 0, 2), clash(1, 4, -1, 0, 1), clash(2, 0, 1, 0, 1)},
		decided:   []api.Conflict{clash(1, 0, 2, 0), clash(1, 1, 0, 0, 1), clash(2, 1, 0, 1)},
	}
	if b := build(g, a); !sameBuilt(b, want) {
		t.Error("Build:", b)
	}
}

// P15.1: an item or a lookahead that stands twice, or in any order, is wanted once.
func TestTwiceIsOnce(t *testing.T) {
	g := grammarOf(2, 1, 0, prod(0, term(0)), prod(0, term(1)), prod(0))
	a := api.Automaton{
		States: states(
			list(item(1, 1, 1, 0, 1), item(1, 1, 0), item(0, 0, 0, 0)),
			list(item(2, 0, 2, 2, 0), item(0, 1, 2, 1, 2), item(-1, 1, 2), item(0, 1, 1), item(-1, 1, 2), item(2, 0, 2)),
		),
		Edges: edges(edge(1, non(0), 0), edge(0, non(0), 1)),
	}
	want := built{
		table:     api.Table{Rows: []api.Row{looks(acts(by(1), by(1), fault), 1), looks(acts(by(2), by(0), accept), 0)}},
		undecided: []api.Conflict{clash(1, 2, -1, -1, 0, 2)},
	}
	if b := build(g, a); !sameBuilt(b, want) {
		t.Error("Build:", b)
	}
}

// P15.1: each fault, and which is told ahead of which.
func TestWrongAutomata(t *testing.T) {
	g := sum()
	wide := func(n int, l ...api.Edge) api.Automaton {
		return api.Automaton{States: make([][]api.Item, n), Edges: l}
	}
	of := func(l ...api.Item) api.Automaton { return api.Automaton{States: states(nil, l, nil)} }
	x := term(0)
	for _, c := range []struct {
		about string
		a     api.Automaton
		want  api.Errno
	}{
		{"no states", wide(0), api.ErrStates},
		{"no states, but edges", wide(0, edge(0, x, 0)), api.ErrStates},
		{"one state", wide(1), api.OK},
		{"as many as there may be", wide(2048), api.OK},
		{"one more", wide(2049), api.ErrStates},
		{"one more, ahead of an item", api.Automaton{States: slices.Repeat(states(list(item(9, 9))), 2049)}, api.ErrStates},
		{"the lowest item", of(item(-1, 0)), api.OK},
		{"a production below", of(item(-2, 0)), api.ErrItem},
		{"the least production", of(item(math.MinInt, 0)), api.ErrItem},
		{"the last production", of(item(1, 0)), api.OK},
		{"a production above", of(item(2, 0)), api.ErrItem},
		{"the greatest production", of(item(0, 0), item(math.MaxInt, 0)), api.ErrItem},
		{"a dot below", of(item(0, -1)), api.ErrItem},
		{"the least dot", of(item(-1, math.MinInt)), api.ErrItem},
		{"the last dots", of(item(-1, 1), item(0, 3), item(1, 1)), api.OK},
		{"a dot above", of(item(0, 4)), api.ErrItem},
		{"a dot above, of start's own", of(item(-1, 2)), api.ErrItem},
		{"the greatest dot", of(item(1, math.MaxInt)), api.ErrItem},
		{"the end marker", of(item(0, 0, 2)), api.OK},
		{"a lookahead above", of(item(0, 3, 0, 3)), api.ErrItem},
		{"a lookahead above, where the dot does not stand at the end", of(item(0, 0, 3)), api.ErrItem},
		{"a lookahead below", of(item(0, 3, 0, -1)), api.ErrItem},
		{"the greatest lookahead", of(item(0, 3, math.MaxInt)), api.ErrItem},
		{"an item ahead of an edge", api.Automaton{States: states(list(item(5, 0))), Edges: edges(edge(0, x, 7))}, api.ErrItem},
		{"an item ahead of two edges", api.Automaton{States: states(nil, list(item(0, 0, 9))), Edges: edges(edge(0, x, 0), edge(0, x, 0))}, api.ErrItem},
		{"all symbols", wide(2, edge(0, non(0), 1), edge(0, term(1), 1), edge(0, x, 1), edge(1, x, 0)), api.OK},
		{"over the end marker", wide(2, edge(0, term(2), 1)), api.ErrSymbol},
		{"over a terminal below", wide(2, edge(0, term(-1), 1)), api.ErrSymbol},
		{"over a nonterminal above", wide(2, edge(0, non(1), 1)), api.ErrSymbol},
		{"over no kind", wide(2, edge(0, api.Sym{}, 1)), api.ErrSymbol},
		{"over another kind", wide(2, edge(0, x, 1), edge(0, api.Sym{Kind: 3}, 1)), api.ErrSymbol},
		{"from a state below", wide(2, edge(-1, x, 1)), api.ErrSymbol},
		{"from a state above", wide(2, edge(2, x, 1)), api.ErrSymbol},
		{"to a state below", wide(2, edge(0, x, -1)), api.ErrSymbol},
		{"to a state above", wide(2, edge(0, x, 2)), api.ErrSymbol},
		{"to the greatest state", wide(2, edge(1, x, math.MaxInt)), api.ErrSymbol},
		{"from the least state", wide(2, edge(math.MinInt, x, 0)), api.ErrSymbol},
		{"twice", wide(2, edge(0, x, 1), edge(0, x, 0)), api.ErrTwice},
		{"twice the same", wide(2, edge(0, non(0), 1), edge(1, x, 1), edge(0, non(0), 1)), api.ErrTwice},
		{"a symbol ahead of twice", wide(2, edge(0, x, 1), edge(0, x, 0), edge(1, term(2), 1)), api.ErrSymbol},
		{"a state ahead of twice", wide(2, edge(0, x, 1), edge(0, x, 0), edge(1, x, 2)), api.ErrSymbol},
	} {
		if l, e := table.Conflicts(g, c.a); e != c.want || len(l) != 0 {
			t.Error("Conflicts:", c.about, l, e)
		}
		b := build(g, c.a)
		if b.err != c.want || c.want != api.OK && !sameBuilt(b, built{err: c.want}) {
			t.Error("Build:", c.about, b)
		}
	}
}

// change makes a table another one.
type change func(*api.Table)

func setDefault(row, n int) change { return func(t *api.Table) { t.Rows[row].Default = n } }

func setAct(row, look int, a api.Action) change {
	return func(t *api.Table) { t.Rows[row].Acts[look] = a }
}

func setGoto(row, n int) change { return func(t *api.Table) { t.Rows[row].Gotos[0] = n } }

func setActs(row, n int) change {
	return func(t *api.Table) { t.Rows[row].Acts = make([]api.Action, n) }
}

func setGotos(row, n int) change {
	return func(t *api.Table) { t.Rows[row].Gotos = make([]int, n) }
}

// setBlind makes a row one of nest's table that does not look, setRows all rows such as have nothing.
func setBlind(row, n int) change { return func(t *api.Table) { t.Rows[row] = blind(n, 4, -1) } }

func setRows(n int) change {
	return func(t *api.Table) { t.Rows = slices.Repeat([]api.Row{looks(make([]api.Action, 4), n-1)}, n) }
}

// shaped is what Shape answers of nest's table with some changes.
type shaped struct {
	about string
	do    []change
	want  api.Errno
	at    int
}

func changes(l ...change) []change { return l }

// heldOfChanges holds Shape, and Defaults, which answers nothing beside a fault.
func heldOfChanges(t *testing.T, cases []shaped) {
	t.Helper()
	for _, c := range cases {
		x := nestRows()
		for _, do := range c.do {
			do(&x)
		}
		if e, at := table.Shape(nest(), x); e != c.want || at != c.at {
			t.Error("Shape:", c.about, e, at)
		}
		y, e := table.Defaults(nest(), x)
		if want, fault := modelDefaults(nest(), x); fault != c.want || e != c.want || !same(y, want) {
			t.Error("Defaults:", c.about, y, e)
		}
	}
}

// P15.3 and P15.4: how many rows, actions and gotos there are.
func TestWrongCounts(t *testing.T) {
	heldOfChanges(t, []shaped{
		{"as it is", nil, api.OK, 0},
		{"no rows", changes(setRows(0)), api.ErrStates, 0},
		{"as many rows as there may be", changes(setRows(2048)), api.OK, 0},
		{"one more", changes(setRows(2049)), api.ErrStates, 0},
		{"one more, ahead of a row", changes(setRows(2049), setActs(0, 0)), api.ErrStates, 0},
		{"one action too much", changes(setActs(2, 5)), api.ErrShape, 2},
		{"one action too few", changes(setActs(5, 3)), api.ErrShape, 5},
		{"no actions", changes(setActs(0, 0)), api.ErrShape, 0},
		{"one goto too much", changes(setGotos(0, 2)), api.ErrShape, 0},
		{"no gotos", changes(setGotos(4, 0)), api.ErrShape, 4},
		{"nothing", changes(setActs(1, 0), setGotos(1, 0)), api.ErrShape, 1},
		{"the first of two rows", changes(setGotos(4, 0), setActs(3, 3)), api.ErrShape, 3},
	})
}

// P15.3 and P15.4: the edges of each range.
func TestWrongRanges(t *testing.T) {
	heldOfChanges(t, []shaped{
		{"the lowest Default", changes(setBlind(2, 0)), api.OK, 0},
		{"the last Default", changes(setBlind(2, 1)), api.OK, 0},
		{"a Default below", changes(setBlind(2, -2)), api.ErrRange, 2},
		{"the least Default", changes(setBlind(2, math.MinInt)), api.ErrRange, 2},
		{"a Default above", changes(setBlind(3, 2)), api.ErrRange, 3},
		{"the greatest Default", changes(setBlind(3, math.MaxInt)), api.ErrRange, 3},
		{"an action below all kinds", changes(setAct(0, 0, api.Action{Kind: -1})), api.ErrRange, 0},
		{"an action above all kinds", changes(setAct(5, 3, api.Action{Kind: 4})), api.ErrRange, 5},
		{"an action of the greatest kind", changes(setAct(5, 3, api.Action{Kind: math.MaxInt})), api.ErrRange, 5},
		{"a shift to the first state", changes(setAct(0, 0, to(0))), api.OK, 0},
		{"a shift to the last state", changes(setAct(0, 0, to(5))), api.OK, 0},
		{"a shift under the end marker", changes(setAct(0, 3, to(5))), api.OK, 0},
		{"a shift below", changes(setAct(0, 0, to(-1))), api.ErrRange, 0},
		{"a shift above", changes(setAct(1, 3, to(6))), api.ErrRange, 1},
		{"a reduction of the last", changes(setAct(1, 3, by(1))), api.OK, 0},
		{"a reduction below", changes(setAct(1, 3, by(-1))), api.ErrRange, 1},
		{"a reduction above", changes(setAct(1, 3, by(2))), api.ErrRange, 1},
		{"an error with a number", changes(setAct(4, 0, api.Action{Arg: 1})), api.ErrRange, 4},
		{"an error with a number below", changes(setAct(4, 0, api.Action{Arg: -1})), api.ErrRange, 4},
		{"acceptance with a number", changes(setAct(3, 3, api.Action{Kind: api.ActAccept, Arg: 1})), api.ErrRange, 3},
		{"acceptance anywhere", changes(setAct(0, 1, accept)), api.OK, 0},
		{"a goto to the first state", changes(setGoto(2, 0)), api.OK, 0},
		{"a goto to the last state", changes(setGoto(2, 5)), api.OK, 0},
		{"a goto below", changes(setGoto(2, -2)), api.ErrRange, 2},
		{"a goto above", changes(setGoto(2, 6)), api.ErrRange, 2},
		{"the greatest goto", changes(setGoto(2, math.MaxInt)), api.ErrRange, 2},
	})
}

// P15.3 and P15.4: rows with a Default and actions, and which fault is told ahead of which.
func TestWrongDefaults(t *testing.T) {
	heldOfChanges(t, []shaped{
		{"a Default and a shift", changes(setDefault(4, 0)), api.ErrAction, 4},
		{"a Default and its own reduction", changes(setDefault(2, 1)), api.ErrAction, 2},
		{"a Default and acceptance", changes(setDefault(3, 1)), api.ErrAction, 3},
		{"a Default and one action", changes(setBlind(5, 0), setAct(5, 3, by(0))), api.ErrAction, 5},
		{"a row's counts ahead of its numbers", changes(setAct(4, 0, to(9)), setGotos(4, 0)), api.ErrShape, 4},
		{"a row's counts ahead of its Default", changes(setDefault(4, 0), setGotos(4, 0)), api.ErrShape, 4},
		{"a row's gotos ahead of its Default", changes(setDefault(4, 0), setGoto(4, 9)), api.ErrRange, 4},
		{"a row's actions ahead of its Default", changes(setDefault(4, 0), setAct(4, 0, by(9))), api.ErrRange, 4},
		{"a row ahead of another's counts", changes(setDefault(4, 0), setGotos(5, 0)), api.ErrAction, 4},
		{"a row ahead of another's numbers", changes(setDefault(1, 0), setGoto(2, 9)), api.ErrAction, 1},
		{"a row's numbers ahead of another's counts", changes(setGoto(2, 9), setActs(3, 0)), api.ErrRange, 2},
	})
}

// P15.3: which rows need not look.
func TestDefaults(t *testing.T) {
	g := nest()
	none := acts(fault, fault, fault, fault)
	for _, c := range []struct {
		about    string
		row, out api.Row
	}{
		{"one reduction", looks(acts(fault, by(1), fault, fault), 1), blind(1, 4, 1)},
		{"one reduction under all", looks(acts(by(0), by(0), by(0), by(0)), -1), blind(0, 4, -1)},
		{"one reduction under the end marker", looks(acts(fault, fault, fault, by(0)), 0), blind(0, 4, 0)},
		{"two", looks(acts(by(1), fault, by(0), fault), -1), looks(acts(by(1), fault, by(0), fault), -1)},
		{"a shift behind", looks(acts(by(1), by(1), fault, to(0)), -1), looks(acts(by(1), by(1), fault, to(0)), -1)},
		{"a shift ahead", looks(acts(to(1), by(1), by(1), by(1)), -1), looks(acts(to(1), by(1), by(1), by(1)), -1)},
		{"acceptance", looks(acts(by(1), fault, fault, accept), -1), looks(acts(by(1), fault, fault, accept), -1)},
		{"acceptance alone", looks(acts(fault, fault, fault, accept), -1), looks(acts(fault, fault, fault, accept), -1)},
		{"a shift alone", looks(acts(to(0), fault, fault, fault), -1), looks(acts(to(0), fault, fault, fault), -1)},
		{"nothing", looks(none, 1), looks(none, 1)},
		{"nothing, and a Default", blind(0, 4, 1), blind(0, 4, 1)},
	} {
		in := api.Table{Rows: []api.Row{c.row, looks(acts(by(1), fault, fault, fault), 0)}}
		want := api.Table{Rows: []api.Row{c.out, blind(1, 4, 0)}}
		if x, e := table.Defaults(g, in); e != api.OK || !same(x, want) {
			t.Error(c.about, x, e)
		}
	}
}

// P15.5: tables that no call made, and numbers of any size.
func TestActionAndGoto(t *testing.T) {
	strange := api.Action{Kind: 77, Arg: -3}
	x := api.Table{Rows: []api.Row{
		looks(acts(to(1), fault, strange), 1, -1, 99, -7),
		{Default: 4, Acts: acts(accept, to(2)), Gotos: []int{0}},
		{},
		{Default: -5, Gotos: []int{2}},
		{Default: -1},
		{Default: math.MaxInt},
	}}
	for _, c := range []struct {
		state, look int
		want        api.Action
	}{
		{0, 0, to(1)}, {0, 1, fault}, {0, 2, strange}, {0, 3, fault}, {0, -1, fault}, {0, math.MaxInt, fault}, {0, math.MinInt, fault},
		{1, 0, by(4)}, {1, 1, by(4)}, {1, 99, by(4)}, {1, -1, by(4)}, {1, math.MinInt, by(4)},
		{2, 0, by(0)}, {2, -9, by(0)}, {3, 1, by(-5)}, {4, 0, fault}, {4, -1, fault}, {5, 0, by(math.MaxInt)},
		{6, 0, fault}, {-1, 0, fault}, {math.MaxInt, 0, fault}, {math.MinInt, 0, fault},
	} {
		if got := table.Action(x, c.state, c.look); got != c.want {
			t.Error("Action:", c, got)
		}
	}
	for _, c := range []struct{ state, non, want int }{
		{0, 0, 1}, {0, 1, -1}, {0, 2, 99}, {0, 3, -7}, {0, 4, -1}, {0, -1, -1}, {0, math.MaxInt, -1}, {0, math.MinInt, -1},
		{1, 0, 0}, {1, 1, -1}, {2, 0, -1}, {3, 0, 2}, {4, 0, -1}, {6, 0, -1}, {-1, 0, -1}, {math.MaxInt, 0, -1}, {math.MinInt, 0, -1},
	} {
		if got := table.Goto(x, c.state, c.non); got != c.want {
			t.Error("Goto:", c, got)
		}
	}
	if table.Action(api.Table{}, 0, 0) != fault || table.Goto(api.Table{}, 0, 0) != -1 {
		t.Error("of no rows")
	}
}

// heldOfTable holds what is asked of a table against the models.
func heldOfTable(t *testing.T, g api.Grammar, x api.Table) api.Errno {
	t.Helper()
	e, at := table.Shape(g, x)
	if want, place := modelShape(g, x); e != want || at != place {
		t.Fatalf("Shape(%v, %v): %v, %d, want %v, %d", g, x, e, at, want, place)
	}
	y, fault := table.Defaults(g, x)
	if want, other := modelDefaults(g, x); fault != other || !same(y, want) {
		t.Fatalf("Defaults(%v, %v): %v, %v, want %v, %v", g, x, y, fault, want, other)
	}
	for state := -1; state <= len(x.Rows); state++ {
		for n := -1; n <= len(g.Terms)+len(g.Nons)+2; n++ {
			if got := table.Action(x, state, n); got != modelAction(x, state, n) {
				t.Fatalf("Action(%v, %d, %d): %v", x, state, n, got)
			}
			if got := table.Goto(x, state, n); got != modelGoto(x, state, n) {
				t.Fatalf("Goto(%v, %d, %d): %d", x, state, n, got)
			}
		}
	}
	return e
}

// heldOfAutomaton holds what is made of an automaton against the models.
func heldOfAutomaton(t *testing.T, g api.Grammar, a api.Automaton) built {
	t.Helper()
	l, e := table.Conflicts(g, a)
	if want, fault := modelConflicts(g, a); e != fault || !sameConflicts(l, want) {
		t.Fatalf("Conflicts(%v, %v): %v, %v, want %v, %v", g, a, l, e, want, fault)
	}
	b := build(g, a)
	if want := modelBuild(g, a); !sameBuilt(b, want) {
		t.Fatalf("Build(%v, %v): %v, want %v", g, a, b, want)
	}
	if b.err == api.OK {
		heldOfTable(t, g, b.table)
	}
	return b
}

// P15.1 and P15.2: all levels of three terminals; a state for each conflict of four productions and acceptance, with and without shifts.
func TestAllConflicts(t *testing.T) {
	e := non(0)
	var a api.Automaton
	for _, reduce := range subsets([]int{3, 1, -1, 2, 0}) {
		for shifts := range 2 {
			var l []api.Item
			for _, p := range reduce {
				l = append(l, item(p, map[int]int{-1: 1, 0: 3, 1: 3, 2: 1, 3: 1}[p], 3, 0, 2, 1))
			}
			for n := range 3 * shifts {
				a.Edges = append(a.Edges, edge(len(a.States), term(n), n))
			}
			a.States = append(a.States, l)
		}
	}
	eachLevels(3, func(levels []api.Level) {
		g := grammarOf(3, 1, 0, prod(0, e, term(0), e), prod(0, e, term(1), e), prod(0, term(0)), prod(0, e))
		g.Prods[2].Prec = 2
		g.Levels = levels
		heldOfAutomaton(t, g, a)
	})
}

// P15.1 and P15.2: every small grammar.
func TestSmallGrammars(t *testing.T) {
	eachSmall(func(g api.Grammar) {
		heldOfAutomaton(t, g, must(lookahead.Attach(g)))
		heldOfAutomaton(t, g, must(canon.Canonical(g)))
	})
}

// P15.1 to P15.5: automata of calls, some things of them changed.
func TestTurnedAutomata(t *testing.T) {
	r := rand.New(rand.NewSource(151))
	seen := map[api.Errno]int{}
	undecided, decided := 0, 0
	for range 6000 {
		g := anyGrammar(r, 3, 3, 7, 3)
		a := must(lookahead.Attach(g))
		if m, e := canon.Merged(g); e == api.OK && r.Intn(2) == 0 {
			a = m
		}
		if len(a.States) > 30 {
			continue
		}
		b := heldOfAutomaton(t, g, turned(r, g, a))
		seen[b.err]++
		undecided += len(b.undecided)
		decided += len(b.decided)
	}
	for _, e := range []api.Errno{api.OK, api.ErrItem, api.ErrSymbol, api.ErrTwice} {
		if seen[e] < 200 {
			t.Error("too seldom:", e, seen)
		}
	}
	if undecided < 2000 || decided < 1000 {
		t.Error("too seldom:", undecided, decided)
	}
}

// P15.3 to P15.5: tables that no call made.
func TestStrangeTables(t *testing.T) {
	r := rand.New(rand.NewSource(152))
	seen := map[api.Errno]int{}
	changed := 0
	for range 20000 {
		g := anyGrammar(r, 4, 3, 5, 3)
		x := anyTable(r, g)
		e := heldOfTable(t, g, x)
		seen[e]++
		if y, e := table.Defaults(g, x); e == api.OK && !same(x, y) {
			changed++
		}
	}
	for _, e := range []api.Errno{api.OK, api.ErrShape, api.ErrRange, api.ErrAction} {
		if seen[e] < 100 {
			t.Error("too seldom:", e, seen)
		}
	}
	if changed < 1000 {
		t.Error("too seldom:", changed)
	}
}

func FuzzGrammars(f *testing.F) {
	f.Add([]byte{0, 3, 1, 3, 255, 0, 0, 255, 0, 3, 2, 3}, int64(1))
	f.Add([]byte{1, 2, 0, 255, 0, 3, 4, 255, 2, 5, 5, 1}, int64(2))
	f.Fuzz(func(t *testing.T, b []byte, seed int64) {
		r := rand.New(rand.NewSource(seed))
		g := grammarOf(3, 3, 0)
		g.Levels = anyLevels(r, 3)
		for i := 0; i < len(b) && i < 24; i++ {
			p := prod(int(b[i] % 3))
			for i++; i < len(b) && b[i] < 200 && len(p.Right) < 4; i++ {
				p.Right = append(p.Right, symbolsOf(g)[b[i]%6])
			}
			g.Prods = append(g.Prods, p)
		}
		if e, _ := grammar.Check(g); e != api.OK {
			return
		}
		a, e := lookahead.Attach(g)
		if e != api.OK || len(a.States) > 100 {
			return
		}
		heldOfAutomaton(t, g, turned(r, g, a))
		heldOfTable(t, g, anyTable(r, g))
	})
}

// P15.1 to P15.4: a grammar that may not be is told ahead of all else, with place 0.
func TestWrongGrammars(t *testing.T) {
	good := must(lookahead.Attach(nest()))
	for _, do := range []func(g *api.Grammar){
		func(g *api.Grammar) { *g = api.Grammar{} },
		func(g *api.Grammar) { g.Nons = nil },
		func(g *api.Grammar) { g.Terms[1] = "S" },
		func(g *api.Grammar) { g.Start = math.MinInt },
		func(g *api.Grammar) { g.Prods = nil },
		func(g *api.Grammar) { g.Prods[1].Left = -1 },
		func(g *api.Grammar) { g.Prods[1].Right = syms(term(3)) },
		func(g *api.Grammar) { g.Prods[0].Right = slices.Repeat(syms(term(0)), 17) },
		func(g *api.Grammar) { g.Prods[1] = g.Prods[0] },
		func(g *api.Grammar) { g.Prods[1].Prec = 9 },
		func(g *api.Grammar) { g.Levels = []api.Level{left(1), {}} },
	} {
		g := nest()
		do(&g)
		want, _ := grammar.Check(g)
		if want == api.OK {
			t.Fatal("a grammar that may be:", g)
		}
		for _, a := range []api.Automaton{good, {}, {States: states(list(item(9, 9))), Edges: edges(edge(7, term(7), 7))}} {
			if l, e := table.Conflicts(g, a); e != want || len(l) != 0 {
				t.Errorf("Conflicts(%v): %v, %v", g, l, e)
			}
			if b := build(g, a); !sameBuilt(b, built{err: want}) {
				t.Errorf("Build(%v): %v", g, b)
			}
		}
		for _, x := range []api.Table{nestRows(), {}, {Rows: make([]api.Row, 3)}} {
			if y, e := table.Defaults(g, x); e != want || len(y.Rows) != 0 {
				t.Errorf("Defaults(%v): %v, %v", g, y, e)
			}
			if e, at := table.Shape(g, x); e != want || at != 0 {
				t.Errorf("Shape(%v): %v, %d", g, e, at)
			}
		}
	}
}

// P15.1 to P15.4: as many symbols, productions and states as there may be, and edges from each state over each symbol.
func TestGreatest(t *testing.T) {
	const n = 2048
	g := grammarOf(64, 64, 63)
	for p := range 256 {
		g.Prods = append(g.Prods, prod(p%64, slices.Repeat(syms(term(p%64), non(p/4)), 8)[:p/64+12]...))
	}
	g.Levels = []api.Level{left(5), neither(7)}
	a := api.Automaton{States: make([][]api.Item, n)}
	for from := range n {
		p := from % 256
		end := len(g.Prods[p].Right)
		a.States[from] = list(item(p, end, 64, 5, 7, 63), item(0, 12, 63), item(p, end-1, 0))
		for at, s := range symbolsOf(g) {
			a.Edges = append(a.Edges, edge(from, s, (from+at)%n))
		}
	}
	x, undecided, decided, e := table.Build(g, a)
	if e != api.OK || len(x.Rows) != n {
		t.Fatal(len(x.Rows), e)
	}
	all := must(table.Conflicts(g, a))
	if len(all) != 3*n || len(undecided)+len(decided) != 3*n || len(decided) == 0 {
		t.Fatal(len(all), len(undecided), len(decided))
	}
	for state := 0; state < n; state += 97 {
		for look := range 65 {
			want := modelThings(modelWant(g, a, state, look))
			if c := table.Action(x, state, look); c != want[0] && look != 5 && look != 7 {
				t.Fatal(state, look, c, want)
			}
		}
		for k := range 64 {
			if c := table.Goto(x, state, k); c != (state+64+k)%n {
				t.Fatal(state, k, c)
			}
		}
	}
	if e, at := table.Shape(g, x); e != api.OK || at != 0 {
		t.Error("Shape:", e, at)
	}
	if y, e := table.Defaults(g, x); e != api.OK || !same(x, y) {
		t.Error("Defaults:", e)
	}
}
