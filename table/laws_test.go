package table_test

import (
	"math/rand"
	"reflect"
	"slices"
	"testing"

	"gantry/api"
	"gantry/canon"
	"gantry/lookahead"
	"gantry/notation"
	"gantry/sentence"
	"gantry/table"
	"gantry/trees"
	"gantry/trim"
)

// automataOf are the three automata with lookaheads that calls make of a grammar, as far as they have not too many states.
func automataOf(g api.Grammar) []api.Automaton {
	l := []api.Automaton{must(lookahead.Attach(g))}
	if a, e := canon.Canonical(g); e == api.OK {
		l = append(l, a, must(canon.Merged(g)))
	}
	return l
}

// eachGrammar goes over every small grammar, and some greater ones.
func eachGrammar(seed int64, greater int, do func(api.Grammar)) {
	eachSmall(do)
	r := rand.New(rand.NewSource(seed))
	for range greater {
		do(anyGrammar(r, 4, 4, 9, 4))
	}
}

// P15.1: where items and edges are in order, the conflicts are those that chapter 12 tells.
func TestConflictsOfCanon(t *testing.T) {
	seen := 0
	eachGrammar(1510, 1000, func(g api.Grammar) {
		for _, a := range automataOf(g) {
			want := must(canon.Conflicts(g, a))
			if l, e := table.Conflicts(g, a); e != api.OK || !sameConflicts(l, want) {
				t.Fatal(g, l, e, want)
			}
			seen += len(want)
		}
	})
	if seen < 5000 {
		t.Error("too seldom:", seen)
	}
}

// P15.2: each conflict is told once, in order, as decided or as not.
func TestEachConflictOnce(t *testing.T) {
	eachGrammar(1520, 1000, func(g api.Grammar) {
		for _, a := range automataOf(g) {
			b := build(g, a)
			all := must(table.Conflicts(g, a))
			for _, c := range all {
				switch {
				case len(b.undecided) > 0 && sameConflicts(b.undecided[:1], []api.Conflict{c}):
					b.undecided = b.undecided[1:]
				case len(b.decided) > 0 && sameConflicts(b.decided[:1], []api.Conflict{c}):
					b.decided = b.decided[1:]
				default:
					t.Fatal(g, all, b)
				}
			}
			if len(b.undecided)+len(b.decided) > 0 {
				t.Fatal(g, all, b)
			}
		}
	})
}

// doesWhatIsWanted holds that under each lookahead but those of conflicts a table does the one thing that a state wants, and in a conflict one of them, or nothing if precedence says so.
func doesWhatIsWanted(t *testing.T, g api.Grammar, a api.Automaton, b built) {
	t.Helper()
	for state := range a.States {
		for look := range len(g.Terms) + 1 {
			want := modelThings(modelWant(g, a, state, look))
			got := table.Action(b.table, state, look)
			isDecided := slices.ContainsFunc(b.decided, func(c api.Conflict) bool { return c.State == state && c.Look == look })
			if !slices.Contains(want, got) && !(got == fault && (len(want) == 0 || isDecided)) {
				t.Fatal(g, state, look, got, want)
			}
		}
		for n := range g.Nons {
			if got := table.Goto(b.table, state, n); got != canon.Next(a, state, non(n)) {
				t.Fatal(g, state, n, got)
			}
		}
	}
}

// changesErrorsAlone holds that of two tables the second one does what the first one does, but where that refuses.
func changesErrorsAlone(t *testing.T, g api.Grammar, x, y api.Table) {
	t.Helper()
	for state, row := range x.Rows {
		did := 0
		for look := range len(g.Terms) + 1 {
			before, after := table.Action(x, state, look), table.Action(y, state, look)
			if before != fault && after != before {
				t.Fatal("another action:", g, x, y, state, look)
			}
			if before == fault && after != fault && (after.Kind != api.ActReduce || !slices.Contains(row.Acts, after)) {
				t.Fatal("a new action:", g, x, y, state, look)
			}
			if after != fault {
				did++
			}
		}
		if !slices.Equal(row.Gotos, y.Rows[state].Gotos) {
			t.Fatal("other gotos:", g, x, y, state)
		}
		if y.Rows[state].Default != -1 && did != len(g.Terms)+1 {
			t.Fatal("it looks still:", g, x, y, state)
		}
	}
}

// P15.6 and P15.7: tables do what states want, with and without Defaults, and have their shape; Defaults twice is Defaults.
func TestWanted(t *testing.T) {
	clean, blinded := 0, 0
	eachGrammar(1560, 1000, func(g api.Grammar) {
		for _, a := range automataOf(g) {
			b := build(g, a)
			if b.err != api.OK {
				t.Fatal(g, b.err)
			}
			if len(b.undecided)+len(b.decided) == 0 {
				clean++
			}
			doesWhatIsWanted(t, g, a, b)
			y := must(table.Defaults(g, b.table))
			changesErrorsAlone(t, g, b.table, y)
			for _, x := range []api.Table{b.table, y} {
				if e, at := table.Shape(g, x); e != api.OK || at != 0 {
					t.Fatal("Shape:", g, x, e, at)
				}
			}
			if z := must(table.Defaults(g, y)); !same(z, y) {
				t.Fatal("Defaults twice:", g, y, z)
			}
			if !same(y, b.table) {
				blinded++
			}
		}
	})
	if clean < 3000 || blinded < 3000 {
		t.Error("too seldom:", clean, blinded)
	}
}

// run is what a table makes of a word: a tree and true; or how many terminals were shifted, and false. Fewer steps than most are made.
func run(g api.Grammar, x api.Table, word []int, most int) (api.Tree, int, bool) {
	stack, done := []int{0}, []int(nil)
	for at := 0; most > 0; most-- {
		look := len(g.Terms)
		if at < len(word) {
			look = word[at]
		}
		switch c := table.Action(x, stack[len(stack)-1], look); c.Kind {
		case api.ActShift:
			stack = append(stack, c.Arg)
			at++
		case api.ActReduce:
			stack = stack[:len(stack)-len(g.Prods[c.Arg].Right)]
			stack = append(stack, table.Goto(x, stack[len(stack)-1], g.Prods[c.Arg].Left))
			done = append(done, c.Arg)
		case api.ActAccept:
			tree, e, _ := trees.FromRight(g, done, tokens(word))
			return must(tree, e), 0, true
		default:
			return api.Tree{}, at, false
		}
	}
	panic("too many steps")
}

func tokens(word []int) []api.Token {
	var l []api.Token
	for _, kind := range word {
		l = append(l, api.Token{Kind: kind})
	}
	return l
}

// eachWord goes over all words of at most so many terminals.
func eachWord(terms, most int, do func([]int)) {
	words := [][]int{nil}
	for range most + 1 {
		var longer [][]int
		for _, w := range words {
			do(w)
			for n := range terms {
				longer = append(longer, append(slices.Clone(w), n))
			}
		}
		words = longer
	}
}

// heldOfWord holds what a table without conflicts makes of a word, with and without Defaults, against the word's trees.
func heldOfWord(t *testing.T, g api.Grammar, x, y api.Table, w []int) bool {
	t.Helper()
	l := must(sentence.Trees(g, g.Start, w, 2))
	tree, at, ok := run(g, x, w, 1000)
	again, too, fine := run(g, y, w, 1000)
	if ok != fine || at != too || ok != (len(l) == 1) || len(l) > 1 {
		t.Fatal(g, w, at, ok, too, fine, l)
	}
	if ok && (!trees.Same(tree, l[0]) || !trees.Same(again, l[0])) {
		t.Fatal("another tree:", g, w, tree, again, l)
	}
	return ok
}

// P15.6: tables without conflicts tell the grammar's words and their trees, with and without Defaults, and refuse at the same places.
func TestRuns(t *testing.T) {
	seen := map[bool]int{}
	ask := func(g api.Grammar) {
		if e, _ := trim.Well(g); e != api.OK {
			return
		}
		for _, a := range automataOf(g) {
			b := build(g, a)
			if len(b.undecided)+len(b.decided) > 0 {
				continue
			}
			y := must(table.Defaults(g, b.table))
			eachWord(len(g.Terms), 5, func(w []int) { seen[heldOfWord(t, g, b.table, y, w)]++ })
		}
	}
	eachSmall(ask)
	r := rand.New(rand.NewSource(1561))
	for range 2000 {
		if g, e := trim.Trim(anyGrammar(r, 3, 3, 6, 3)); e == api.OK {
			ask(g)
		}
	}
	ask(nest())
	if seen[true] < 500 || seen[false] < 500 {
		t.Error("too seldom:", seen)
	}
}

// P15.2: tables of grammars with levels group as the levels say, and refuse what they do not let stand side by side.
func TestGroups(t *testing.T) {
	g, e, at := notation.Parse("%nonassoc '<' %left '+' '-' %left '*' %right '^' %left u %term n E : E '<' E | E '+' E | E '-' E | E '*' E | E '^' E | '-' E %prec u | n ;")
	if e != api.OK {
		t.Fatal(e, at)
	}
	b := build(g, must(lookahead.Attach(g)))
	if b.err != api.OK || len(b.undecided) != 0 || len(b.decided) != 30 {
		t.Fatal(b.err, b.undecided, len(b.decided))
	}
	y := must(table.Defaults(g, b.table))
	less, plus, minus, times, power, n := 0, 1, 2, 3, 4, 6
	for _, c := range []struct {
		word []int
		want string
	}{
		{[]int{n, plus, n, minus, n}, "(E (E (E n) '+' (E n)) '-' (E n))"},
		{[]int{n, plus, n, times, n}, "(E (E n) '+' (E (E n) '*' (E n)))"},
		{[]int{n, power, n, power, n}, "(E (E n) '^' (E (E n) '^' (E n)))"},
		{[]int{minus, n, power, n, less, n}, "(E (E (E '-' (E n)) '^' (E n)) '<' (E n))"},
		{[]int{n, less, n, less, n}, ""},
		{[]int{n, less, n, plus, n, less, n}, ""},
	} {
		for _, x := range []api.Table{b.table, y} {
			text := ""
			if tree, _, ok := run(g, x, c.word, 1000); ok {
				text = must(trees.Print(g, tree))
			}
			if text != c.want {
				t.Error(c.word, text, "want", c.want)
			}
		}
	}
}

// widen is a list with spare room behind it, all of it marked.
func widen[T any](l []T, mark T) []T {
	out := append(slices.Clone(l), mark, mark, mark)
	return out[:len(l):len(out)]
}

func whole[T any](l []T) []T { return slices.Clone(l[:cap(l)]) }

// roomy and those below are things with spare room behind each list.
func roomy(g api.Grammar) api.Grammar {
	g.Terms, g.Nons = widen(g.Terms, "spare"), widen(g.Nons, "spare")
	g.Prods, g.Levels = widen(g.Prods, prod(77, term(77))), widen(g.Levels, left(77))
	for i := range g.Prods {
		g.Prods[i].Right = widen(g.Prods[i].Right, term(77))
	}
	for i := range g.Levels {
		g.Levels[i].Terms = widen(g.Levels[i].Terms, 77)
	}
	return g
}

func roomyAutomaton(a api.Automaton) api.Automaton {
	a.States, a.Edges = widen(a.States, list(item(77, 77, 77))), widen(a.Edges, edge(77, term(77), 77))
	for n := range a.States {
		a.States[n] = widen(a.States[n], item(77, 77, 77))
		for i := range a.States[n] {
			a.States[n][i].Look = widen(a.States[n][i].Look, 77)
		}
	}
	return a
}

func roomyTable(t api.Table) api.Table {
	t.Rows = widen(t.Rows, api.Row{Default: 77})
	for n, row := range t.Rows {
		t.Rows[n].Acts, t.Rows[n].Gotos = widen(row.Acts, to(77)), widen(row.Gotos, 77)
	}
	return t
}

// shown and those below are all that lists hold, spare room too, in memory of its own.
func shown(g api.Grammar) api.Grammar {
	g.Terms, g.Nons, g.Prods, g.Levels = whole(g.Terms), whole(g.Nons), whole(g.Prods), whole(g.Levels)
	for i := range g.Prods {
		g.Prods[i].Right = whole(g.Prods[i].Right)
	}
	for i := range g.Levels {
		g.Levels[i].Terms = whole(g.Levels[i].Terms)
	}
	return g
}

func shownAutomaton(a api.Automaton) api.Automaton {
	a.States, a.Edges = whole(a.States), whole(a.Edges)
	for n := range a.States {
		a.States[n] = whole(a.States[n])
		for i := range a.States[n] {
			a.States[n][i].Look = whole(a.States[n][i].Look)
		}
	}
	return a
}

func shownTable(t api.Table) api.Table {
	t.Rows = whole(t.Rows)
	for n, row := range t.Rows {
		t.Rows[n].Acts, t.Rows[n].Gotos = whole(row.Acts), whole(row.Gotos)
	}
	return t
}

// spoil writes over a list and its room.
func spoil[T any](l []T, mark T) {
	for i := range l[:cap(l)] {
		l[:cap(l)][i] = mark
	}
}

// apart tells whether no two lists share memory: each is written over by a mark of its own, and must keep it.
func apart[T comparable](lists [][]T, mark func(n int) T) bool {
	for n := range lists {
		spoil(lists[n], mark(n))
	}
	for n := range lists {
		if !slices.Equal(whole(lists[n]), slices.Repeat([]T{mark(n)}, cap(lists[n]))) {
			return false
		}
	}
	return true
}

// spoilAll writes over all that the calls answer, and tells whether no two of their lists share memory.
func spoilAll(g api.Grammar, a api.Automaton, x api.Table) bool {
	var numbers [][]int
	var actions [][]api.Action
	var tables []api.Table
	var conflicts [][]api.Conflict
	for range 2 {
		b := build(g, a)
		y, _ := table.Defaults(g, x)
		l, _ := table.Conflicts(g, a)
		tables = append(tables, b.table, y)
		conflicts = append(conflicts, b.undecided, b.decided, l)
	}
	for _, y := range tables {
		for _, row := range y.Rows {
			numbers, actions = append(numbers, row.Gotos), append(actions, row.Acts)
		}
		spoil(y.Rows, api.Row{Default: -99})
	}
	for _, l := range conflicts {
		for _, c := range l {
			numbers = append(numbers, c.Reduce)
		}
		spoil(l, api.Conflict{Look: -99})
	}
	table.Shape(g, x)
	table.Action(x, 0, 0)
	table.Goto(x, 0, 0)
	return apart(numbers, func(n int) int { return -100 - n }) && apart(actions, func(n int) api.Action { return by(-100 - n) })
}

// P15.8: no call changes what is handed in, spare room too; answers share memory neither with it nor with each other, nor do two lists of one.
func TestMemory(t *testing.T) {
	r := rand.New(rand.NewSource(158))
	for range 500 {
		g := roomy(anyGrammar(r, 4, 3, 8, 3))
		l := automataOf(g)
		a := l[r.Intn(len(l))]
		x, _, _, _ := table.Build(g, a)
		if r.Intn(2) == 0 {
			x = anyTable(r, g)
		}
		a, x = roomyAutomaton(turned(r, g, a)), roomyTable(x)
		wasG, wasA, wasX := shown(g), shownAutomaton(a), shownTable(x)
		if !spoilAll(g, a, x) {
			t.Fatal("two lists share memory:", g, a, x)
		}
		if !reflect.DeepEqual(shown(g), wasG) || !reflect.DeepEqual(shownAutomaton(a), wasA) || !reflect.DeepEqual(shownTable(x), wasX) {
			t.Fatal("an argument was changed:", g, a, x)
		}
		heldOfTable(t, g, x)
		if len(a.States) < 30 {
			heldOfAutomaton(t, g, a)
		}
	}
}

// P15.8: lists of an argument that share memory do not make lists of the answer share it.
func TestSharedArguments(t *testing.T) {
	g := nest()
	one := looks(acts(fault, by(1), fault, fault), -1)
	x, e := table.Defaults(g, api.Table{Rows: []api.Row{one, one, one}})
	if e != api.OK || !same(x, api.Table{Rows: slices.Repeat([]api.Row{blind(1, 4, -1)}, 3)}) {
		t.Fatal(x, e)
	}
	x.Rows[0].Acts[1], x.Rows[0].Gotos[0] = accept, 2
	if x.Rows[1].Acts[1] != fault || x.Rows[2].Gotos[0] != -1 || one.Acts[1] != by(1) || one.Gotos[0] != -1 {
		t.Error("shared:", x, one)
	}
	ends := list(item(0, 3, 0, 1), item(1, 1, 0, 1))
	b := build(g, api.Automaton{States: states(ends, ends)})
	want := []api.Conflict{clash(0, 0, -1, 0, 1), clash(0, 1, -1, 0, 1), clash(1, 0, -1, 0, 1), clash(1, 1, -1, 0, 1)}
	if b.err != api.OK || !sameConflicts(b.undecided, want) {
		t.Fatal(b)
	}
	b.undecided[0].Reduce[1] = 9
	if !sameConflicts(b.undecided[1:], want[1:]) {
		t.Error("shared:", b.undecided)
	}
}
