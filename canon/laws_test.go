package canon_test

import (
	"math/rand"
	"reflect"
	"slices"
	"testing"

	"gantry/api"
	"gantry/canon"
	"gantry/items"
	"gantry/lrzero"
	"gantry/sentence"
	"gantry/trim"
)

// eachGrammar goes over every small grammar, and some greater ones.
func eachGrammar(seed int64, greater int, do func(api.Grammar)) {
	eachSmall(do)
	r := rand.New(rand.NewSource(seed))
	for range greater {
		do(anyGrammar(r, 3, 4, 9, 4))
	}
}

// chained is the items to which a list of symbols leads, and how many of these were gone, by layer 10's calls alone.
func chained(g api.Grammar, l []api.Sym) ([]api.Item, int) {
	state := must(items.Closure(g, must(items.Start(g))))
	for gone, s := range l {
		behind := must(items.Goto(g, state, s))
		if len(behind) == 0 {
			return state, gone
		}
		state = must(items.Closure(g, behind))
	}
	return state, len(l)
}

// P12.4: each state is reached, and its items are what the way to it says.
func TestKnuth(t *testing.T) {
	eachGrammar(1240, 200, func(g api.Grammar) {
		a := must(canon.Canonical(g))
		for state := range a.States {
			way, ok := lrzero.Access(a, state)
			to, gone := canon.Walk(a, way)
			if !ok || to != state || gone != len(way) {
				t.Fatal("not reached:", g, state)
			}
			if l, _ := chained(g, way); !same(l, a.States[state]) {
				t.Fatal("other items:", g, way, l, a.States[state])
			}
			for other := range state {
				if same(a.States[other], a.States[state]) {
					t.Fatal("two states with the same items:", g, other, state)
				}
			}
		}
		for length := range 4 {
			eachList(symbolsOf(g)[:min(3, len(symbolsOf(g)))], length, func(way []api.Sym) {
				to, gone := canon.Walk(a, way)
				if l, far := chained(g, way); gone != far || !same(l, a.States[to]) {
					t.Fatal("another way:", g, way, gone, far)
				}
			})
		}
	})
}

// isShifted tells whether an automaton's state of these cores has a conflict of a shift with a reduction under a lookahead.
func isShifted(a api.Automaton, conflicts []api.Conflict, cores []api.Item, look int) bool {
	return slices.ContainsFunc(conflicts, func(c api.Conflict) bool {
		return c.Shift >= 0 && c.Look == look && sameCores(a.States[c.State], cores)
	})
}

// P12.5: the merged automaton is the one of items without lookaheads, with those of all canonical states of each core; no shift is new in conflict.
func TestMergedIsLalr(t *testing.T) {
	seen := map[bool]int{}
	eachGrammar(1250, 400, func(g api.Grammar) {
		a, m, zero := must(canon.Canonical(g)), must(canon.Merged(g)), must(lrzero.Build(g))
		if !slices.EqualFunc(m.States, zero.States, sameCores) || !slices.Equal(m.Edges, zero.Edges) {
			t.Fatal("other cores or edges:", g, m, zero)
		}
		for _, state := range m.States {
			var all []api.Item
			for _, other := range a.States {
				if sameCores(other, state) {
					all = append(all, other...)
				}
			}
			if !same(normal(all), state) {
				t.Fatal("other lookaheads:", g, state)
			}
		}
		before := must(canon.Conflicts(g, a))
		for _, c := range must(canon.Conflicts(g, m)) {
			seen[c.Shift >= 0]++
			if c.Shift >= 0 && !isShifted(a, before, m.States[c.State], c.Look) {
				t.Fatal("a new conflict of a shift:", g, c)
			}
		}
	})
	if seen[true] < 100 || seen[false] < 100 {
		t.Error("too seldom:", seen)
	}
}

// greatest has as many terminals, nonterminals and productions as there may be, and right sides as long as they may be.
func greatest() api.Grammar {
	const n = 64
	g := grammarOf(n, n, 0)
	for i := range n {
		next := non((i + 1) % n)
		long := append(slices.Repeat(syms(next), 15), term(i))
		g.Prods = append(g.Prods, prod(i, next), prod(i, term(i)), prod(i, long...), prod(i, next, non((i+2)%n)))
	}
	return g
}

// P12.1 and P12.5: a grammar at every limit.
func TestGreatestGrammar(t *testing.T) {
	g := greatest()
	a, zero := must(canon.Canonical(g)), must(lrzero.Build(g))
	m := must(canon.Merge(g, a))
	if !slices.EqualFunc(m.States, zero.States, sameCores) || !slices.Equal(m.Edges, zero.Edges) {
		t.Fatal("other cores or edges:", len(a.States), len(m.States), len(zero.States))
	}
	for at := 0; at < len(a.Edges); at += 9973 {
		e := a.Edges[at]
		if l := must(items.Closure(g, must(items.Goto(g, a.States[e.From], e.Sym)))); !same(l, a.States[e.To]) {
			t.Fatal("Canonical:", e)
		}
	}
}

// eachWord goes over all words of a length.
func eachWord(terms, length int, do func([]int)) {
	w := make([]int, length)
	for {
		do(w)
		at := 0
		for at < length && w[at] == terms-1 {
			w[at] = 0
			at++
		}
		if at == length {
			return
		}
		w[at]++
	}
}

// twoTrees tells whether a word of at most so many terminals has two trees; a grammar in which a nonterminal gives itself has one with endless ones.
func twoTrees(g api.Grammar, most int) bool {
	found := false
	for length := range most + 1 {
		eachWord(len(g.Terms), length, func(w []int) {
			n, e := sentence.Count(g, g.Start, w)
			found = found || e != api.OK || n > 1
		})
	}
	return found
}

// P12.6: without conflicts no word has two trees.
func TestNoConflictNoTwoTrees(t *testing.T) {
	seen := map[bool]int{}
	ask := func(g api.Grammar) {
		g, e := trim.Trim(g)
		if e != api.OK {
			return
		}
		clean := len(must(canon.Conflicts(g, must(canon.Canonical(g))))) == 0
		ambiguous := twoTrees(g, 5)
		if clean && ambiguous {
			t.Fatal("no conflict, and two trees:", g)
		}
		if clean || ambiguous {
			seen[clean]++
		}
	}
	eachSmall(ask)
	r := rand.New(rand.NewSource(1260))
	for range 1000 {
		ask(anyGrammar(r, 3, 3, 6, 3))
	}
	if seen[true] < 300 || seen[false] < 300 {
		t.Error("too seldom:", seen)
	}
}

// P12.7: what is in order stays so, and what is merged stays so; an automaton whose numbers are mixed comes back.
func TestOrderAndMergeTwice(t *testing.T) {
	r := rand.New(rand.NewSource(1270))
	eachGrammar(1271, 300, func(g api.Grammar) {
		a, m := must(canon.Canonical(g)), must(canon.Merged(g))
		if again, e := canon.Merge(g, m); e != api.OK || !sameAutomaton(again, m) {
			t.Fatal("Merge of a merged one:", g, again, e)
		}
		for _, x := range []api.Automaton{a, m} {
			o, was, e := canon.Order(x)
			if e != api.OK || !sameAutomaton(o, x) || !slices.Equal(was, once(was)) || len(was) != len(x.States) {
				t.Fatal("Order of what is in order:", g, o, was, e)
			}
			mixed := deep(x)
			for range 5 {
				if n := len(x.States); n > 2 {
					swapped(&mixed, 1+r.Intn(n-1), 1+r.Intn(n-1))
				}
			}
			r.Shuffle(len(mixed.Edges), func(i, j int) { mixed.Edges[i], mixed.Edges[j] = mixed.Edges[j], mixed.Edges[i] })
			o, was, e = canon.Order(mixed)
			if e != api.OK || !sameAutomaton(o, x) {
				t.Fatal("Order of what was mixed:", g, o, was, e)
			}
			for n, had := range was {
				if !same(o.States[n], mixed.States[had]) {
					t.Fatal("not what it was:", g, n, had)
				}
			}
		}
	})
}

// widen is a list with spare room behind it, all of it marked.
func widen[T any](l []T, mark T) []T {
	out := append(slices.Clone(l), mark, mark, mark)
	return out[:len(l):len(out)]
}

func whole[T any](l []T) []T { return slices.Clone(l[:cap(l)]) }

// roomy is a grammar with spare room behind each list.
func roomy(g api.Grammar) api.Grammar {
	g.Terms, g.Nons = widen(g.Terms, "spare"), widen(g.Nons, "spare")
	g.Prods = widen(g.Prods, prod(77, term(77)))
	for i := range g.Prods {
		g.Prods[i].Right = widen(g.Prods[i].Right, term(77))
	}
	return g
}

func roomyAutomaton(a api.Automaton) api.Automaton {
	a.States = widen(a.States, list(item(77, 77, 77)))
	a.Edges = widen(a.Edges, edge(77, term(77), 77))
	for n := range a.States {
		a.States[n] = widen(a.States[n], item(77, 77, 77))
		for i := range a.States[n] {
			a.States[n][i].Look = widen(a.States[n][i].Look, 77)
		}
	}
	return a
}

// shown and shownAutomaton are all that lists hold, spare room too, in memory of its own.
func shown(g api.Grammar) api.Grammar {
	g.Terms, g.Nons, g.Prods = whole(g.Terms), whole(g.Nons), whole(g.Prods)
	for i := range g.Prods {
		g.Prods[i].Right = whole(g.Prods[i].Right)
	}
	return g
}

func shownAutomaton(a api.Automaton) api.Automaton {
	a.States, a.Edges = whole(a.States), whole(a.Edges)
	for n := range a.States {
		a.States[n] = whole(a.States[n])
		for i := range a.States[n] {
			a.States[n][i].Look = whole(a.States[n][i].Look)
		}
	}
	return a
}

// spoil writes over a list and its room.
func spoil[T any](l []T, mark T) {
	for i := range l[:cap(l)] {
		l[:cap(l)][i] = mark
	}
}

// apart tells whether no list of an automaton shares memory with another one of it: each is written over, the greatest last.
func apart(a api.Automaton) bool {
	want := shownAutomaton(a)
	for n := range a.States {
		for i := range a.States[n] {
			spoil(a.States[n][i].Look, 1000*n+i)
			spoil(want.States[n][i].Look, 1000*n+i)
		}
	}
	if !reflect.DeepEqual(shownAutomaton(a), want) {
		return false
	}
	for n := range a.States {
		spoil(a.States[n], item(-100-n, 0))
		spoil(want.States[n], item(-100-n, 0))
	}
	if !reflect.DeepEqual(shownAutomaton(a), want) {
		return false
	}
	spoil(a.Edges, edge(99, term(99), 99))
	spoil(a.States, nil)
	return true
}

// P12.8: no call changes what is handed in, spare room too, and no answer shares memory with it.
func TestArgumentsAreLeft(t *testing.T) {
	r := rand.New(rand.NewSource(1280))
	for range 400 {
		g := roomy(anyGrammar(r, 3, 3, 7, 3))
		way := widen(anySyms(r, g, 4), term(77))
		for _, a := range []api.Automaton{must(canon.Canonical(g)), must(canon.Merged(g)), turned(r, g, must(canon.Canonical(g))), anyAutomaton(r)} {
			a = roomyAutomaton(a)
			wasG, wasWay, wasA := shown(g), whole(way), shownAutomaton(a)
			canon.Check(g, a)
			canon.Next(a, 0, non(g.Start))
			canon.Walk(a, way)
			knuth, _ := canon.Canonical(g)
			merged, _ := canon.Merged(g)
			one, _ := canon.Merge(g, a)
			two, _ := canon.Merge(g, a)
			o, was, _ := canon.Order(a)
			if !apart(knuth) || !apart(merged) || !apart(one) || !apart(o) {
				t.Fatal("two lists of an answer share memory:", g, a)
			}
			spoil(was, -7)
			if want, _ := modelMerge(g, a); !sameAutomaton(two, want) {
				t.Fatal("two answers share memory:", g, a)
			}
			l, _ := canon.Conflicts(g, a)
			for i, c := range l {
				spoil(c.Reduce, -100-i)
			}
			for i, c := range l {
				if !slices.Equal(whole(c.Reduce), slices.Repeat([]int{-100 - i}, cap(c.Reduce))) {
					t.Fatal("two conflicts share memory:", g, a)
				}
			}
			if !reflect.DeepEqual(shown(g), wasG) || !slices.Equal(whole(way), wasWay) || !reflect.DeepEqual(shownAutomaton(a), wasA) {
				t.Fatal("an argument was changed:", g, a)
			}
		}
	}
}
