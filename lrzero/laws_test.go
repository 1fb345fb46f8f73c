package lrzero_test

import (
	"math/rand"
	"reflect"
	"slices"
	"testing"

	"gantry/api"
	"gantry/lrzero"
)

// eachOver goes over the lists that have l, and of the other items productions' beginnings alone. (A list with other items still asks for no less, so these stand for all.)
func eachOver(g api.Grammar, l []api.Core, do func(over []api.Core)) {
	for choice := range 1 << len(g.Prods) {
		over := l
		for p := range g.Prods {
			if choice>>p&1 == 1 {
				over = append(slices.Clip(over), core(p, 0))
			}
		}
		do(once(over))
	}
}

// P11.5: the closure has the items, is closed, and is within all closed lists that have them; a goto is closed.
func TestClosedAndLeast(t *testing.T) {
	r := rand.New(rand.NewSource(1150))
	ask := func(g api.Grammar, l []api.Core) {
		got := must(lrzero.Closure(g, l))
		if !within(l, got) || !isClosed(g, got) || !slices.Equal(got, once(got)) || !slices.Equal(must(lrzero.Closure(g, got)), got) {
			t.Fatal("not closed:", g, l, got)
		}
		eachOver(g, l, func(over []api.Core) {
			if isClosed(g, over) && !within(got, over) {
				t.Fatal("not the least:", g, l, got, over)
			}
		})
		for _, s := range symbolsOf(g) {
			behind := must(lrzero.Goto(g, got, s))
			if !isClosed(g, behind) || !slices.Equal(behind, must(lrzero.Closure(g, behind))) || !slices.Equal(behind, must(lrzero.Goto(g, l, s))) {
				t.Fatal("a goto that is not closed:", g, l, s, behind)
			}
		}
	}
	eachSmall(func(g api.Grammar) {
		ask(g, list(core(-1, 0)))
		ask(g, anyItems(r, g, 3))
	})
	for range 1000 {
		g := anyGrammar(r, 3, 5, 7, 4)
		ask(g, list(core(-1, 0)))
		ask(g, anyItems(r, g, 4))
	}
}

// heldOfLists asks of all lists of so many symbols, and shorter ones, whether they are viable.
func heldOfLists(t *testing.T, g api.Grammar, most int) {
	t.Helper()
	begin := knuth(g, most)
	a := must(lrzero.Build(g))
	for length := range most + 1 {
		eachList(symbolsOf(g), length, func(l []api.Sym) bool {
			want := begin[spelt(l)]
			if got, e := lrzero.Viable(g, l); e != api.OK || got != want {
				t.Fatalf("Viable(%v, %v): %v, %v, want %v", g, l, got, e, want)
			}
			if _, ok := lrzero.Walk(a, 0, l); ok != want {
				t.Fatalf("Walk(%v, %v): %v, want %v", g, l, ok, want)
			}
			return false
		})
	}
}

// P11.4 and P11.6: what is viable is what rightmost derivations tell.
func TestKnuth(t *testing.T) {
	at := 0
	eachSmall(func(g api.Grammar) {
		if at++; at%3 == 0 {
			heldOfLists(t, g, 4)
		} else {
			heldOfLists(t, g, 2)
		}
	})
	r := rand.New(rand.NewSource(1160))
	for range 200 {
		heldOfLists(t, anyGrammar(r, 2, 3, 8, 4), 4)
	}
}

// P11.6: beginnings of lines of greater grammars, and such lists with one symbol changed.
func TestKnuthOfGreater(t *testing.T) {
	r := rand.New(rand.NewSource(1161))
	seen := map[bool]int{}
	for range 300 {
		g := anyGrammar(r, 4, 5, 12, 5)
		begin := knuth(g, 5)
		a := must(lrzero.Build(g))
		for state := range a.States {
			way, _ := lrzero.Access(a, state)
			if len(way) == 0 || len(way) > 5 {
				continue
			}
			all := symbolsOf(g)
			way[r.Intn(len(way))] = all[r.Intn(len(all))]
			want := begin[spelt(way)]
			seen[want]++
			if got := must(lrzero.Viable(g, way)); got != want {
				t.Fatal(g, way, got)
			}
		}
	}
	if seen[true] < 500 || seen[false] < 500 {
		t.Error("too seldom:", seen)
	}
}

// heldAsWhole holds what must be so of every automaton that Build makes.
func heldAsWhole(t *testing.T, g api.Grammar) {
	t.Helper()
	a := must(lrzero.Build(g))
	m, _ := plainOf(a)
	for state, items := range m.states {
		way, ok := lrzero.Access(a, state)
		if to, walked := lrzero.Walk(a, 0, way); !ok || !walked || to != state {
			t.Fatal("not reached:", g, state, way)
		}
		if !isClosed(g, items) || !slices.Equal(items, once(items)) {
			t.Fatal("no state:", g, items)
		}
		if s, ok := lrzero.Incoming(a, state); ok != (state != 0) || state != 0 && s != way[len(way)-1] {
			t.Fatal("Incoming:", g, state, s, ok)
		}
		for other := range state {
			if slices.Equal(items, m.states[other]) {
				t.Fatal("two states with the same items:", g, state, other)
			}
		}
	}
	for _, e := range a.Edges {
		if e.To == 0 {
			t.Fatal("into state 0:", g, e)
		}
		if !slices.Equal(must(lrzero.Goto(g, m.states[e.From], e.Sym)), m.states[e.To]) {
			t.Fatal("no goto:", g, e)
		}
	}
}

// P11.7: all states are reached, none twice, each over one symbol, and none over any into the first.
func TestStatesAndEdges(t *testing.T) {
	eachSmall(func(g api.Grammar) { heldAsWhole(t, g) })
	r := rand.New(rand.NewSource(1170))
	for range 500 {
		heldAsWhole(t, anyGrammar(r, 4, 5, 12, 5))
	}
	heldAsWhole(t, rows(300))
}

// widen is a list with spare room behind it, all of it marked.
func widen[T any](l []T, mark T) []T {
	out := append(slices.Clone(l), mark, mark, mark)
	return out[:len(l):len(out)]
}

func whole[T any](l []T) []T { return slices.Clone(l[:cap(l)]) }

// roomy is a grammar with spare room behind each list.
func roomy(g api.Grammar) api.Grammar {
	g.Terms, g.Nons = widen(g.Terms, "spare"), widen(g.Nons, "spare")
	g.Prods = widen(g.Prods, prod(77, term(77)))
	for i := range g.Prods {
		g.Prods[i].Right = widen(g.Prods[i].Right, term(77))
	}
	return g
}

func roomyAutomaton(a api.Automaton) api.Automaton {
	a.States = widen(a.States, []api.Item{{Prod: 77}})
	a.Edges = widen(a.Edges, edge(77, term(77), 77))
	for i := range a.States {
		a.States[i] = widen(a.States[i], api.Item{Prod: 77})
	}
	return a
}

// shown and shownAutomaton are all that lists hold, spare room too, in memory of its own.
func shown(g api.Grammar) api.Grammar {
	g.Terms, g.Nons, g.Prods = whole(g.Terms), whole(g.Nons), whole(g.Prods)
	for i := range g.Prods {
		g.Prods[i].Right = whole(g.Prods[i].Right)
	}
	return g
}

func shownAutomaton(a api.Automaton) api.Automaton {
	a.States, a.Edges = whole(a.States), whole(a.Edges)
	for i := range a.States {
		a.States[i] = whole(a.States[i])
		for k := range a.States[i] {
			a.States[i][k].Look = whole(a.States[i][k].Look)
		}
	}
	return a
}

// P11.8: no call changes what is handed in, spare room too.
func TestArgumentsAreLeft(t *testing.T) {
	r := rand.New(rand.NewSource(1180))
	for range 1000 {
		g := roomy(anyGrammar(r, 4, 4, 9, 3))
		l := widen(anyItems(r, g, 5), core(77, 77))
		way := widen(anySyms(r, g, 4), term(77))
		a, built := roomyAutomaton(anyAutomaton(r)), roomyAutomaton(must(lrzero.Build(g)))
		wasG, wasL, wasWay, wasA, wasBuilt := shown(g), whole(l), whole(way), shownAutomaton(a), shownAutomaton(built)
		lrzero.Closure(g, l)
		lrzero.Goto(g, l, non(g.Start))
		lrzero.Build(g)
		lrzero.Viable(g, way)
		for _, a := range []api.Automaton{a, built} {
			for state := range a.States {
				lrzero.Walk(a, state, way)
				lrzero.Access(a, state)
				lrzero.Incoming(a, state)
			}
		}
		if !reflect.DeepEqual(shown(g), wasG) || !slices.Equal(whole(l), wasL) || !slices.Equal(whole(way), wasWay) {
			t.Fatal("a grammar or a list was changed")
		}
		if !reflect.DeepEqual(shownAutomaton(a), wasA) || !reflect.DeepEqual(shownAutomaton(built), wasBuilt) {
			t.Fatal("an automaton was changed")
		}
	}
}

// spoil writes over a list and its room.
func spoil[T any](l []T, mark T) {
	for i := range l[:cap(l)] {
		l[:cap(l)][i] = mark
	}
}

// apart tells whether no list of an automaton shares memory with another one of it: each is written over, the greatest last.
func apart(a api.Automaton) bool {
	want := shownAutomaton(a)
	for i := range a.States {
		spoil(a.States[i], api.Item{Prod: -100 - i})
		spoil(want.States[i], api.Item{Prod: -100 - i})
		if !reflect.DeepEqual(shownAutomaton(a), want) {
			return false
		}
	}
	spoil(a.Edges, edge(99, term(99), 99))
	spoil(a.States, nil)
	return true
}

// P11.8: answers share memory neither with arguments nor with other answers, nor do two lists of one.
func TestAnswersShareNothing(t *testing.T) {
	r := rand.New(rand.NewSource(1181))
	for range 1000 {
		g := roomy(anyGrammar(r, 3, 3, 8, 3))
		l := widen(anyItems(r, g, 5), core(77, 77))
		closed := slices.Clip(must(lrzero.Closure(g, l)))
		wasG, wasL, wasClosed := shown(g), whole(l), whole(closed)
		spoil(must(lrzero.Closure(g, l)), core(99, 99))
		spoil(must(lrzero.Closure(g, closed)), core(99, 99))
		for _, s := range symbolsOf(g) {
			spoil(must(lrzero.Goto(g, closed, s)), core(99, 99))
		}
		a := roomyAutomaton(must(lrzero.Build(g)))
		strange := roomyAutomaton(anyAutomaton(r))
		wasA, wasStrange := shownAutomaton(a), shownAutomaton(strange)
		if !apart(must(lrzero.Build(g))) {
			t.Fatal("two lists share memory:", g)
		}
		for _, a := range []api.Automaton{a, strange} {
			for state := range a.States {
				way, _ := lrzero.Access(a, state)
				spoil(way, term(99))
			}
		}
		if !reflect.DeepEqual(shown(g), wasG) || !slices.Equal(whole(l), wasL) || !slices.Equal(closed, wasClosed) {
			t.Fatal("an answer shares memory with a grammar or a list:", g, l)
		}
		if !reflect.DeepEqual(shownAutomaton(a), wasA) || !reflect.DeepEqual(shownAutomaton(strange), wasStrange) {
			t.Fatal("an answer shares memory with an automaton:", g)
		}
		heldOfAutomaton(t, g)
	}
}
