package lookahead_test

import (
	"math/rand"
	"reflect"
	"slices"
	"strconv"
	"testing"

	"gantry/api"
	"gantry/canon"
	"gantry/first"
	"gantry/lookahead"
	"gantry/lrzero"
	"gantry/sentence"
	"gantry/trim"
)

// crossed is S → a A d, S → b B d, S → a B e, S → b A e, A → c, B → c.
func crossed() api.Grammar {
	a, b, c, d, e := term(0), term(1), term(2), term(3), term(4)
	return grammarOf(5, 3, 0, prod(0, a, non(1), d), prod(0, b, non(2), d), prod(0, a, non(2), e), prod(0, b, non(1), e), prod(1, c), prod(2, c))
}

// atEnds is an automaton without the lookaheads of items whose dot does not stand at the end.
func atEnds(g api.Grammar, a api.Automaton) api.Automaton {
	all := api.Automaton{Edges: a.Edges}
	for _, state := range a.States {
		var l []api.Item
		for _, i := range state {
			if i.Dot < len(rightOf(g, i.Prod)) {
				i.Look = nil
			}
			l = append(l, i)
		}
		all.States = append(all.States, l)
	}
	return all
}

// heldOfMerged holds Attach against Knuth's automaton, its cores merged; false, if that has too many states.
func heldOfMerged(t *testing.T, g api.Grammar) bool {
	t.Helper()
	m, e := canon.Merged(g)
	if e != api.OK {
		return false
	}
	if a, e := lookahead.Attach(g); e != api.OK || !sameAutomaton(a, atEnds(g, m)) {
		t.Fatalf("Attach(%v): %v, %v, want %v", g, a, e, atEnds(g, m))
	}
	return true
}

// P13.4: the quick way tells what the definition does.
func TestMerged(t *testing.T) {
	eachSmall(func(g api.Grammar) { heldOfMerged(t, g) })
	r := rand.New(rand.NewSource(1340))
	seen := 0
	for range 1500 {
		if heldOfMerged(t, anyGrammar(r, 4, 5, 12, 5)) {
			seen++
		}
	}
	if seen < 1000 {
		t.Error("too seldom:", seen)
	}
	for _, g := range []api.Grammar{nest(), assign(), optional(), crossed()} {
		if !heldOfMerged(t, g) {
			t.Error("too many states:", g)
		}
	}
}

// dense has that many rows of fifteen nonterminals, all of which may be nothing: nearly each transition includes nearly all others.
func dense(n int) api.Grammar {
	g := grammarOf(n, 2, 0, prod(0), prod(1, non(0)))
	for i := range n {
		g.Prods = append(g.Prods, prod(0, append(syms(term(i)), slices.Repeat(syms(non(1)), 15)...)...))
	}
	return g
}

// P13.4: as many transitions as there may be, without and with such as may be over nothing.
func TestMergedOfGreat(t *testing.T) {
	great := many(4096)
	hollow := many(4095)
	hollow.Prods = append(hollow.Prods, prod(63))
	for _, g := range []api.Grammar{great, hollow, dense(9)} {
		if !heldOfMerged(t, g) {
			t.Error("too many states:", g)
		}
	}
}

// reduction is a production that is reduced in a state with a terminal, or the end marker, next.
type reduction struct{ state, prod, next int }

// reductionsOf are those that the lookaheads tell, but for start's own.
func reductionsOf(a api.Automaton) map[reduction]bool {
	all := map[reduction]bool{}
	for n, state := range a.States {
		for _, i := range state {
			for _, look := range i.Look {
				if i.Prod >= 0 {
					all[reduction{n, i.Prod, look}] = true
				}
			}
		}
	}
	return all
}

// line is a line of a rightmost derivation, as far as the nonterminal that is replaced next, and what comes next behind that one: all that stands there is terminals.
type line struct {
	ahead []api.Sym
	non   int
	next  int
}

func (l line) key() string {
	text := strconv.Itoa(l.non) + " " + strconv.Itoa(l.next)
	for _, s := range l.ahead {
		text += " " + strconv.Itoa(int(s.Kind)) + ":" + strconv.Itoa(s.N)
	}
	return text
}

// derived are the reductions of all lines that have at most so many symbols ahead of the nonterminal, as rightmost derivations reach them. (Of a grammar without barren symbols, in which First tells how words begin.)
func derived(g api.Grammar, a api.Automaton, most int) map[reduction]bool {
	nullable, firsts := must(first.Nullable(g)), must(first.First(g))
	all, known := map[reduction]bool{}, map[string]bool{}
	lines := []line{{nil, g.Start, len(g.Terms)}}
	for at := 0; at < len(lines); at++ {
		now := lines[at]
		for p, q := range g.Prods {
			if q.Left != now.non {
				continue
			}
			whole := slices.Concat(now.ahead, q.Right)
			state, _ := lrzero.Walk(a, 0, whole)
			all[reduction{state, p, now.next}] = true
			for k, s := range q.Right {
				if s.Kind == api.SymTerm || len(now.ahead)+k > most {
					continue
				}
				for _, next := range must(first.Of(g, nullable, firsts, q.Right[k+1:], []int{now.next})) {
					if more := (line{whole[:len(now.ahead)+k], s.N, next}); !known[more.key()] {
						known[more.key()] = true
						lines = append(lines, more)
					}
				}
			}
		}
	}
	return all
}

// withoutBarren is a grammar with one more production for each barren nonterminal.
func withoutBarren(g api.Grammar) api.Grammar {
	for _, n := range must(trim.Barren(g)) {
		g.Prods = append(slices.Clip(g.Prods), prod(n, term(n%len(g.Terms))))
	}
	return g
}

// P13.5: what the lookaheads tell is what rightmost derivations do.
func TestDerivations(t *testing.T) {
	ask := func(g api.Grammar, most int) {
		g = withoutBarren(g)
		a := must(lookahead.Attach(g))
		if got, want := reductionsOf(a), derived(g, a, most); !reflect.DeepEqual(got, want) {
			t.Fatal(g, got, want)
		}
	}
	eachSmall(func(g api.Grammar) { ask(g, 4) })
	r := rand.New(rand.NewSource(1350))
	for range 300 {
		ask(anyGrammar(r, 3, 3, 5, 3), 6)
	}
}

// run goes over a tree as an automaton does that shifts and reduces, and tells each reduction: what stands ahead, with the right side, the production, and how many leaves were read.
func run(g api.Grammar, tree api.Tree, tell func(ahead []api.Sym, prod, read int)) {
	var stack []api.Sym
	read := 0
	var visit func(t api.Tree)
	visit = func(t api.Tree) {
		if t.Prod < 0 {
			stack = append(stack, term(t.Tok.Kind))
			read++
			return
		}
		for _, kid := range t.Kids {
			visit(kid)
		}
		tell(stack, t.Prod, read)
		stack = append(stack[:len(stack)-len(t.Kids)], non(g.Prods[t.Prod].Left))
	}
	visit(tree)
}

// met are the reductions in all trees of words of at most so many terminals, as far as layer 9 tells them.
func met(g api.Grammar, a api.Automaton, most int) map[reduction]bool {
	all := map[reduction]bool{}
	for length := range most + 1 {
		for _, w := range must(sentence.Words(g, g.Start, length, 100)) {
			for _, tree := range must(sentence.Trees(g, g.Start, w, 30)) {
				run(g, tree, func(ahead []api.Sym, prod, read int) {
					next := len(g.Terms)
					if read < len(w) {
						next = w[read]
					}
					state, _ := lrzero.Walk(a, 0, ahead)
					all[reduction{state, prod, next}] = true
				})
			}
		}
	}
	return all
}

// P13.5: each reduction in a tree has its lookahead; of some grammars the trees of short words show all that there are.
func TestTrees(t *testing.T) {
	list := grammarOf(1, 1, 0, prod(0, non(0), term(0)), prod(0))
	sum := grammarOf(2, 1, 0, prod(0, non(0), term(0), non(0)), prod(0, term(1)))
	for _, g := range []api.Grammar{nest(), assign(), optional(), crossed(), list, sum} {
		a := must(lookahead.Attach(g))
		if got, want := reductionsOf(a), met(g, a, 7); !reflect.DeepEqual(got, want) {
			t.Error(g, got, want)
		}
	}
	r := rand.New(rand.NewSource(1351))
	seen := 0
	for range 4000 {
		g, e := trim.Wells(anyGrammar(r, 3, 4, 8, 3))
		if e != api.OK {
			continue
		}
		a := must(lookahead.Attach(g))
		told := reductionsOf(a)
		for m := range met(g, a, 4) {
			seen++
			if !told[m] {
				t.Fatal("not told:", g, m)
			}
		}
	}
	if seen < 3000 {
		t.Error("too seldom:", seen)
	}
}

// P13.4: a grammar's own conflicts, and those that there are not, by the lookaheads alone.
func TestConflicts(t *testing.T) {
	if l := must(canon.Conflicts(assign(), must(lookahead.Attach(assign())))); len(l) != 0 {
		t.Error("the chapter's example:", l)
	}
	want := []api.Conflict{{State: 4, Look: 3, Shift: -1, Reduce: []int{4, 5}}, {State: 4, Look: 4, Shift: -1, Reduce: []int{4, 5}}}
	if l := must(canon.Conflicts(crossed(), must(lookahead.Attach(crossed())))); !reflect.DeepEqual(l, want) {
		t.Error("LR(1), not LALR(1):", l)
	}
}

// widen is a list with spare room behind it, all of it marked.
func widen[T any](l []T, mark T) []T {
	out := append(slices.Clone(l), mark, mark, mark)
	return out[:len(l):len(out)]
}

func whole[T any](l []T) []T { return slices.Clone(l[:cap(l)]) }

// roomy is a grammar with spare room behind each list.
func roomy(g api.Grammar) api.Grammar {
	g.Terms, g.Nons = widen(g.Terms, "spare"), widen(g.Nons, "spare")
	g.Prods = widen(g.Prods, prod(77, term(77)))
	for i := range g.Prods {
		g.Prods[i].Right = widen(g.Prods[i].Right, term(77))
	}
	return g
}

func roomyAutomaton(a api.Automaton) api.Automaton {
	a.States = widen(a.States, list(item(77, 77, 77)))
	a.Edges = widen(a.Edges, edge(77, term(77), 77))
	for n := range a.States {
		a.States[n] = widen(a.States[n], item(77, 77, 77))
		for i := range a.States[n] {
			a.States[n][i].Look = widen(a.States[n][i].Look, 77)
		}
	}
	return a
}

// shown and shownAutomaton are all that lists hold, spare room too, in memory of its own.
func shown(g api.Grammar) api.Grammar {
	g.Terms, g.Nons, g.Prods = whole(g.Terms), whole(g.Nons), whole(g.Prods)
	for i := range g.Prods {
		g.Prods[i].Right = whole(g.Prods[i].Right)
	}
	return g
}

func shownAutomaton(a api.Automaton) api.Automaton {
	a.States, a.Edges = whole(a.States), whole(a.Edges)
	for n := range a.States {
		a.States[n] = whole(a.States[n])
		for i := range a.States[n] {
			a.States[n][i].Look = whole(a.States[n][i].Look)
		}
	}
	return a
}

// spoil writes over a list and its room.
func spoil[T any](l []T, mark T) {
	for i := range l[:cap(l)] {
		l[:cap(l)][i] = mark
	}
}

// apart tells whether no two lists share memory: each is written over by a number of its own, and must keep it.
func apart(lists [][]int) bool {
	for n := range lists {
		spoil(lists[n], -100-n)
	}
	for n := range lists {
		if !slices.Equal(whole(lists[n]), slices.Repeat([]int{-100 - n}, cap(lists[n]))) {
			return false
		}
	}
	spoil(lists, nil)
	return true
}

// apartAutomaton tells it of an automaton, its states and their lookaheads.
func apartAutomaton(a api.Automaton) bool {
	var looks [][]int
	for _, state := range a.States {
		for _, i := range state {
			looks = append(looks, i.Look)
		}
	}
	if !apart(looks) {
		return false
	}
	want := shownAutomaton(a)
	for n := range a.States {
		spoil(a.States[n], item(-100-n, 0))
		spoil(want.States[n], item(-100-n, 0))
	}
	if !reflect.DeepEqual(shownAutomaton(a), want) {
		return false
	}
	spoil(a.Edges, edge(99, term(99), 99))
	spoil(a.States, nil)
	return true
}

// spoilAll writes over all that the calls answer, and tells whether no two lists of an answer share memory.
func spoilAll(g api.Grammar, a api.Automaton) bool {
	spoil(lookahead.Transitions(a), edge(99, term(99), 99))
	direct, _ := lookahead.Direct(g, a)
	reads, _ := lookahead.Reads(g, a)
	includes, _ := lookahead.Includes(g, a)
	follow, _ := lookahead.Follow(g)
	attached, _ := lookahead.Attach(g)
	spoil(reads, pair(99, 99))
	spoil(includes, pair(99, 99))
	for state := range a.States {
		for prod := range g.Prods {
			back, _ := lookahead.Lookback(g, a, state, prod)
			spoil(back, 99)
		}
	}
	return apart(direct) && apart(follow) && apartAutomaton(attached)
}

// P13.6: no call changes what is handed in, spare room too; answers share memory neither with it nor with each other, nor do two lists of one.
func TestMemory(t *testing.T) {
	r := rand.New(rand.NewSource(1360))
	for range 200 {
		g := roomy(anyGrammar(r, 3, 3, 7, 3))
		a := roomyAutomaton(must(lrzero.Build(g)))
		for _, state := range a.States {
			for i := range state {
				state[i].Look = state[i].Look[:0]
			}
		}
		attached := roomyAutomaton(must(lookahead.Attach(g)))
		wasG, wasA, wasAttached := shown(g), shownAutomaton(a), shownAutomaton(attached)
		if !spoilAll(g, a) {
			t.Fatal("two lists of an answer share memory:", g)
		}
		spoilAll(g, attached)
		if !reflect.DeepEqual(shown(g), wasG) || !reflect.DeepEqual(shownAutomaton(a), wasA) || !reflect.DeepEqual(shownAutomaton(attached), wasAttached) {
			t.Fatal("an argument was changed:", g, a)
		}
		heldOfGrammar(t, g)
	}
}
