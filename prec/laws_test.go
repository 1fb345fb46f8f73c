package prec_test

import (
	"math/rand"
	"reflect"
	"slices"
	"testing"

	"gantry/api"
	"gantry/canon"
	"gantry/lookahead"
	"gantry/notation"
	"gantry/prec"
	"gantry/trees"
)

// keeps is how many things of a conflict a decision leaves: the shift, if it is there, and the productions.
func keeps(c api.Conflict, d api.Decision) int {
	n := 0
	if c.Shift != -1 && !d.ShiftDropped {
		n++
	}
	for _, p := range c.Reduce {
		if !slices.Contains(d.Dropped, p) {
			n++
		}
	}
	return n
}

// heldOfKept holds that a decision leaves what its kind says.
func heldOfKept(t *testing.T, g api.Grammar, c api.Conflict, d api.Decision) {
	t.Helper()
	drops := d.ShiftDropped || len(d.Dropped) > 0
	if drops == (d.Kind == api.DecideNone) {
		t.Fatal("what is dropped:", g, c, d)
	}
	want := map[api.DecideKind]int{api.DecideNone: len(c.Reduce), api.DecideShift: 1, api.DecideReduce: 1, api.DecideError: 0}[d.Kind]
	if d.Kind == api.DecideNone && c.Shift != -1 {
		want++
	}
	if keeps(c, d) != want {
		t.Fatal("what is kept:", g, c, d)
	}
	if d.Kind == api.DecideReduce && (!slices.Contains(c.Reduce, d.Prod) || slices.Contains(d.Dropped, d.Prod)) || d.Kind != api.DecideReduce && d.Prod != -1 {
		t.Fatal("the production that is kept:", g, c, d)
	}
	for at, p := range d.Dropped {
		if !slices.Contains(c.Reduce, p) || at > 0 && d.Dropped[at-1] >= p {
			t.Fatal("the productions that are dropped:", g, c, d)
		}
	}
}

// P14.5: of any conflicts one thing is kept, or nothing, or all.
func TestKept(t *testing.T) {
	r := rand.New(rand.NewSource(145))
	seen := map[api.DecideKind]int{}
	for range 3000 {
		g := anyGrammar(r, 5, 2, 8, 4)
		for range 10 {
			c := anyConflict(r, g)
			d := must(prec.Resolve(g, c))
			heldOfKept(t, g, c, d)
			seen[d.Kind]++
		}
	}
	for kind := api.DecideNone; kind <= api.DecideError; kind++ {
		if seen[kind] < 500 {
			t.Error("too seldom:", kind, seen[kind])
		}
	}
}

// P14.3 and P14.5: the conflicts that automata have are such as may be.
func TestConflictsOfGrammars(t *testing.T) {
	r := rand.New(rand.NewSource(1450))
	decided := 0
	for range 1500 {
		g := anyGrammar(r, 4, 3, 9, 4)
		l := must(canon.Conflicts(g, must(lookahead.Attach(g))))
		all, e, n := prec.ResolveAll(g, l)
		if e != api.OK || n != len(l) {
			t.Fatal(g, l, e, n)
		}
		for at, d := range all {
			heldOfKept(t, g, l[at], d)
			if want, _ := modelResolve(g, l[at]); !same(d, want) {
				t.Fatal(g, l[at], d, want)
			}
			if d.Kind != api.DecideNone {
				decided++
			}
		}
	}
	if decided < 1000 {
		t.Error("too seldom:", decided)
	}
}

// operators has E → E t E for each of n terminals, and E → n.
func operators(n int, levels []api.Level) api.Grammar {
	g := grammarOf(n+1, 1, 0)
	for i := range n {
		g.Prods = append(g.Prods, prod(0, non(0), term(i), non(0)))
	}
	g.Prods = append(g.Prods, prod(0, term(n)))
	g.Levels = levels
	return g
}

// P14.6: of two levels the later one binds closer; of one, its Assoc says.
func TestCloserBinds(t *testing.T) {
	eachLevels(4, func(levels []api.Level) {
		g := operators(4, levels)
		for i, lower := range levels {
			for j, higher := range levels {
				for _, a := range lower.Terms {
					for _, b := range higher.Terms {
						want := reduce(b, i, a)
						switch {
						case i < j || i == j && lower.Assoc == api.AssocRight:
							want = shift(b, j, a)
						case i == j && lower.Assoc == api.AssocNone:
							want = fail(b, i, a)
						}
						if d, e := prec.Decide(g, a, b); e != api.OK || !same(d, want) {
							t.Fatal(levels, a, b, d, e)
						}
						if d, e := prec.Resolve(g, clash(b, a)); e != api.OK || !same(d, want) {
							t.Fatal(levels, a, b, d, e)
						}
					}
				}
			}
		}
	})
}

// machine is an automaton that does what precedence leaves of its conflicts.
type machine struct {
	g     api.Grammar
	a     api.Automaton
	said  map[api.Pair]api.Decision // by state and lookahead
	stack []int
	done  []int // the productions that were reduced
}

func machineOf(g api.Grammar) *machine {
	m := &machine{g: g, a: must(lookahead.Attach(g)), said: map[api.Pair]api.Decision{}}
	for _, c := range must(canon.Conflicts(g, m.a)) {
		m.said[api.Pair{A: c.State, B: c.Look}] = must(prec.Resolve(g, c))
	}
	return m
}

// reduces is the production that a state reduces under a lookahead (-1: start's own), or -2.
func (m *machine) reduces(state, look int) int {
	for _, i := range m.a.States[state] {
		if slices.Contains(i.Look, look) {
			return i.Prod
		}
	}
	return -2
}

// run answers the tree of a word, and false, if it is refused.
func (m *machine) run(word []int) (api.Tree, bool) {
	m.stack, m.done = []int{0}, nil
	for at := 0; ; {
		look := len(m.g.Terms)
		if at < len(word) {
			look = word[at]
		}
		state := m.stack[len(m.stack)-1]
		d, conflict := m.said[api.Pair{A: state, B: look}]
		to, p := canon.Next(m.a, state, term(look)), m.reduces(state, look)
		switch {
		case conflict && d.Kind == api.DecideError:
			return api.Tree{}, false
		case conflict && d.Kind == api.DecideShift, !conflict && to >= 0:
			m.stack = append(m.stack, to)
			at++
		case p >= 0:
			m.reduce(p)
		case p == -1:
			return m.tree(word), true
		default:
			return api.Tree{}, false
		}
	}
}

func (m *machine) reduce(p int) {
	m.stack = m.stack[:len(m.stack)-len(m.g.Prods[p].Right)]
	m.stack = append(m.stack, canon.Next(m.a, m.stack[len(m.stack)-1], non(m.g.Prods[p].Left)))
	m.done = append(m.done, p)
}

func (m *machine) tree(word []int) api.Tree {
	tree, e, _ := trees.FromRight(m.g, m.done, tokens(word))
	return must(tree, e)
}

func tokens(word []int) []api.Token {
	var l []api.Token
	for _, kind := range word {
		l = append(l, api.Token{Kind: kind})
	}
	return l
}

// climb groups operands and operators by their levels, as a person does: at the operator that binds least; of one level at the last (left) or first (right); false, if two of a level that does not associate stand side by side in one group.
func climb(g api.Grammar, word []int) (api.Tree, bool) {
	last := len(g.Prods) - 1
	if len(word) == 1 {
		return api.Tree{Prod: last, Kids: []api.Tree{{Prod: -1, Tok: api.Token{Kind: word[0]}}}}, true
	}
	least := 1
	for at := 3; at < len(word); at += 2 {
		here, best := modelLevel(g, word[at]), modelLevel(g, word[least])
		if here == best && g.Levels[here].Assoc == api.AssocNone {
			return api.Tree{}, false
		}
		if here < best || here == best && g.Levels[here].Assoc == api.AssocLeft {
			least = at
		}
	}
	l, fine := climb(g, word[:least])
	r, too := climb(g, word[least+1:])
	return api.Tree{Prod: word[least], Kids: []api.Tree{l, {Prod: -1, Tok: api.Token{Kind: word[least]}}, r}}, fine && too
}

// words are all words of that many operands with operators between.
func words(operators, operands int) [][]int {
	l := [][]int{{operators}}
	for range operands - 1 {
		var longer [][]int
		for _, w := range l {
			for n := range operators {
				longer = append(longer, append(slices.Clone(w), n, operators))
			}
		}
		l = longer
	}
	return l
}

// P14.6: what an automaton makes of sums, if it does what precedence says, is what a person makes of them.
func TestGroups(t *testing.T) {
	accepted, refused := 0, 0
	eachLevels(3, func(levels []api.Level) {
		g := operators(3, levels)
		if modelLevel(g, 0) < 0 || modelLevel(g, 1) < 0 || modelLevel(g, 2) < 0 {
			return
		}
		m := machineOf(g)
		for operands := 1; operands <= 5; operands++ {
			for _, w := range words(3, operands) {
				got, ok := m.run(w)
				want, fine := climb(g, w)
				if ok != fine || ok && !trees.Same(got, want) {
					t.Fatal(levels, w, got, ok, want, fine)
				}
				if ok {
					accepted++
				} else {
					refused++
				}
			}
		}
	})
	if accepted < 1000 || refused < 1000 {
		t.Error("too seldom:", accepted, refused)
	}
}

// P14.1 and P14.6: a sign ahead binds closer by the level of a terminal that stands nowhere.
func TestSigns(t *testing.T) {
	g, e, at := notation.Parse("%left '-' %left '*' %left u %term n E : E '-' E | E '*' E | '-' E %prec u | n ;")
	if e != api.OK {
		t.Fatal(e, at)
	}
	minus, times, n := 0, 1, 3
	for _, c := range []struct {
		word []int
		want string
	}{
		{[]int{minus, n, minus, n}, "(E (E '-' (E n)) '-' (E n))"},
		{[]int{minus, n, times, n}, "(E (E '-' (E n)) '*' (E n))"},
		{[]int{n, minus, minus, n, times, n}, "(E (E n) '-' (E (E '-' (E n)) '*' (E n)))"},
		{[]int{minus, minus, n}, "(E '-' (E '-' (E n)))"},
	} {
		tree, ok := machineOf(g).run(c.word)
		if text, e := trees.Print(g, tree); !ok || e != api.OK || text != c.want {
			t.Error(c.word, text, e, ok)
		}
	}
}

// P14.6: else goes with the nearest if, by levels that tell no more than that.
func TestDangling(t *testing.T) {
	g, e, at := notation.Parse("%nonassoc then %nonassoc else %term if x S : if S %prec then | if S else S | x ;")
	if e != api.OK {
		t.Fatal(e, at)
	}
	other, iff, x := 1, 2, 3
	tree, ok := machineOf(g).run([]int{iff, iff, x, other, x})
	if text, e := trees.Print(g, tree); !ok || e != api.OK || text != "(S if (S if (S x) else (S x)))" {
		t.Error(text, e, ok)
	}
}

// spare are terminals that neither a level nor a production nor a conflict has.
func spare(g api.Grammar, l []api.Conflict) []int {
	var free []int
	for n := range g.Terms {
		asked := modelLevel(g, n) >= 0
		for p := range g.Prods {
			asked = asked || modelTerminal(g, p) == n
		}
		for _, c := range l {
			asked = asked || c.Look == n
		}
		if !asked {
			free = append(free, n)
		}
	}
	return free
}

// P14.7: levels of other terminals, put ahead, change the levels' numbers alone.
func TestLevelsAhead(t *testing.T) {
	r := rand.New(rand.NewSource(147))
	decided := 0
	for range 5000 {
		g := anyGrammar(r, 9, 2, 6, 4)
		g.Levels = g.Levels[:r.Intn(len(g.Levels)+1)]
		var l []api.Conflict
		for range 4 {
			l = append(l, anyConflict(r, g))
		}
		free := spare(g, l)
		if len(free) == 0 {
			continue
		}
		h := g
		h.Levels = nil
		for _, n := range free {
			h.Levels = append(h.Levels, level(api.Assoc(1+r.Intn(3)), n))
		}
		h.Levels = append(h.Levels, g.Levels...)
		for _, c := range l {
			want := must(prec.Resolve(g, c))
			if want.By >= 0 {
				want.By += len(free)
				decided++
			}
			if d, e := prec.Resolve(h, c); e != api.OK || !same(d, want) {
				t.Fatal(g, h, c, d, e)
			}
		}
	}
	if decided < 500 {
		t.Error("too seldom:", decided)
	}
}

// widen is a list with spare room behind it, all of it marked.
func widen[T any](l []T, mark T) []T {
	out := append(slices.Clone(l), mark, mark, mark)
	return out[:len(l):len(out)]
}

func whole[T any](l []T) []T { return slices.Clone(l[:cap(l)]) }

// roomy is a grammar with spare room behind each list.
func roomy(g api.Grammar) api.Grammar {
	g.Terms, g.Nons = widen(g.Terms, "spare"), widen(g.Nons, "spare")
	g.Prods, g.Levels = widen(g.Prods, prod(77, term(77))), widen(g.Levels, left(77))
	for i := range g.Prods {
		g.Prods[i].Right = widen(g.Prods[i].Right, term(77))
	}
	for i := range g.Levels {
		g.Levels[i].Terms = widen(g.Levels[i].Terms, 77)
	}
	return g
}

// shown, and those below, are all that lists hold, spare room too, in memory of its own.
func shown(g api.Grammar) api.Grammar {
	g.Terms, g.Nons, g.Prods, g.Levels = whole(g.Terms), whole(g.Nons), whole(g.Prods), whole(g.Levels)
	for i := range g.Prods {
		g.Prods[i].Right = whole(g.Prods[i].Right)
	}
	for i := range g.Levels {
		g.Levels[i].Terms = whole(g.Levels[i].Terms)
	}
	return g
}

func shownConflicts(l []api.Conflict) []api.Conflict {
	l = whole(l)
	for i := range l {
		l[i].Reduce = whole(l[i].Reduce)
	}
	return l
}

func shownDecisions(l []api.Decision) []api.Decision {
	l = whole(l)
	for i := range l {
		l[i].Dropped = whole(l[i].Dropped)
	}
	return l
}

// spoil writes over a list and its room.
func spoil[T any](l []T, mark T) {
	for i := range l[:cap(l)] {
		l[:cap(l)][i] = mark
	}
}

// apart tells whether no two lists share memory: each is written over by a number of its own, and must keep it.
func apart(lists [][]int) bool {
	for n := range lists {
		spoil(lists[n], -100-n)
	}
	for n := range lists {
		if !slices.Equal(whole(lists[n]), slices.Repeat([]int{-100 - n}, cap(lists[n]))) {
			return false
		}
	}
	return true
}

// spoilAll writes over all that the calls answer, and tells whether no two of their lists share memory.
func spoilAll(g api.Grammar, l []api.Conflict, decided []api.Decision) bool {
	var lists [][]int
	for p := range g.Prods {
		for n := range g.Terms {
			lists = append(lists, must(prec.Decide(g, p, n)).Dropped)
		}
	}
	for _, c := range l {
		lists = append(lists, must(prec.Resolve(g, c)).Dropped)
	}
	all, _, _ := prec.ResolveAll(g, l)
	for _, d := range all {
		lists = append(lists, d.Dropped)
	}
	spoil(all, api.Decision{Look: 99})
	used, _ := prec.Used(g, decided)
	spoil(used, true)
	return apart(lists)
}

// P14.8: no call changes what is handed in, spare room too; answers share memory neither with it nor with each other, nor do two lists of one.
func TestMemory(t *testing.T) {
	r := rand.New(rand.NewSource(148))
	for range 300 {
		g := roomy(anyGrammar(r, 4, 2, 8, 3))
		var l []api.Conflict
		for range 12 {
			c := anyConflict(r, g)
			c.Reduce = widen(c.Reduce, 77)
			l = append(l, c)
		}
		l = append(l, l...) // lists of an argument may share memory
		l = widen(l, clash(77, 77))
		decided, _, _ := prec.ResolveAll(g, l)
		for at := range decided {
			decided[at].Dropped = widen(decided[at].Dropped, 77)
		}
		wasG, wasL, was := shown(g), shownConflicts(l), shownDecisions(decided)
		if !spoilAll(g, l, decided) {
			t.Fatal("two lists share memory:", g, l)
		}
		if !reflect.DeepEqual(shown(g), wasG) || !reflect.DeepEqual(shownConflicts(l), wasL) || !reflect.DeepEqual(shownDecisions(decided), was) {
			t.Fatal("an argument was changed:", g, l)
		}
		held(t, g, l)
	}
}
