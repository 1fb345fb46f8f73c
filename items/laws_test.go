package items_test

import (
	"math/rand"
	"reflect"
	"slices"
	"testing"

	"gantry/api"
	"gantry/items"
)

// eachOver goes over the lists that have l within, and of the other items productions' beginnings alone, each with any lookaheads. (A list with other items still asks for no less, so these lists stand for all.)
func eachOver(g api.Grammar, l []api.Item, do func(over []api.Item)) {
	sets := 1 << (len(g.Terms) + 1)
	choices := 1
	for range g.Prods {
		choices *= sets + 1
	}
	for choice := range choices {
		over := slices.DeleteFunc(slices.Clone(l), func(i api.Item) bool { return i.Prod >= 0 && i.Dot == 0 })
		rest := choice
		for p := range g.Prods {
			set := rest % (sets + 1)
			rest /= sets + 1
			if set == sets {
				continue
			}
			i := item(p, 0)
			for n := range len(g.Terms) + 1 {
				if set>>n&1 == 1 {
					i.Look = append(i.Look, n)
				}
			}
			over = append(over, i)
		}
		if over = modelNormal(over); modelWithin(l, over) {
			do(over)
		}
	}
}

// P10.5: the closure has the list, is closed, and is within all closed lists that have it.
func TestClosedAndLeast(t *testing.T) {
	r := rand.New(rand.NewSource(1050))
	held := 0
	ask := func(g api.Grammar, l []api.Item) {
		c := claimsOf(g)
		got := must(items.Closure(g, l))
		if e, _ := items.Check(g, got); e != api.OK || !items.Within(l, got) || !isClosed(g, c, got) || !same(must(items.Closure(g, got)), got) {
			t.Fatalf("not closed: %v, %v: %v, %v", g, l, got, e)
		}
		eachOver(g, l, func(over []api.Item) {
			if isClosed(g, c, over) {
				held++
				if !items.Within(got, over) {
					t.Fatalf("not the least: %v, %v: %v and %v", g, l, got, over)
				}
			}
		})
	}
	eachSmall(func(g api.Grammar) {
		if r.Intn(4) == 0 {
			ask(g, anyItems(r, g, 3))
		}
	})
	for range 60 {
		g := anyGrammar(r, 2, 3, 3, 4)
		ask(g, must(items.Start(g)))
		ask(g, anyItems(r, g, 4))
	}
	if held < 5000 {
		t.Error("too few:", held)
	}
}

// P10.5: likewise of greater grammars, within closures of lists that have more.
func TestClosureGrows(t *testing.T) {
	r := rand.New(rand.NewSource(1051))
	for range 2000 {
		g := anyGrammar(r, 5, 5, 14, 5)
		l := anyItems(r, g, 8)
		got := must(items.Closure(g, l))
		if !items.Within(l, got) || !same(must(items.Closure(g, got)), got) {
			t.Fatal("not closed:", g, l, got)
		}
		over := modelClosure(g, claimsOf(g), modelNormal(slices.Concat(l, anyItems(r, g, 5))))
		if !items.Within(got, over) {
			t.Fatal("not the least:", g, l, got, over)
		}
	}
}

// P10.6: of a Union, and of each lookahead for itself.
func TestByLookaheads(t *testing.T) {
	r := rand.New(rand.NewSource(1060))
	for range 3000 {
		g := anyGrammar(r, 5, 5, 12, 4)
		a, b := anyItems(r, g, 4), anyItems(r, g, 4)
		whole := must(items.Closure(g, items.Union(a, b)))
		if !same(whole, items.Union(must(items.Closure(g, a)), must(items.Closure(g, b)))) {
			t.Fatal("of a Union:", g, a, b)
		}
		for _, i := range a {
			var singles []api.Item
			for _, n := range i.Look {
				singles = items.Union(singles, must(items.Closure(g, list(item(i.Prod, i.Dot, n)))))
			}
			if len(i.Look) == 0 {
				singles = must(items.Closure(g, list(item(i.Prod, i.Dot))))
			}
			if !same(must(items.Closure(g, list(i))), singles) {
				t.Fatal("of single lookaheads:", g, i, singles)
			}
		}
	}
}

// bare is the items without lookaheads.
func bare(l []api.Item) []api.Item {
	var all []api.Item
	for _, i := range l {
		all = append(all, item(i.Prod, i.Dot))
	}
	return all
}

// P10.7: Goto of a Union; cores of both calls hang on cores alone.
func TestGotoAndCores(t *testing.T) {
	r := rand.New(rand.NewSource(1070))
	for range 3000 {
		g := anyGrammar(r, 4, 4, 12, 4)
		a, b := anyItems(r, g, 3), anyItems(r, g, 3)
		other := bare(a)
		for i := range other {
			other[i].Look = []int{r.Intn(len(g.Terms) + 1)}
		}
		closed := items.Cores(must(items.Closure(g, a)))
		for _, l := range [][]api.Item{bare(a), other} {
			if !slices.Equal(closed, items.Cores(must(items.Closure(g, l)))) {
				t.Fatal("cores of the closure:", g, a, l)
			}
		}
		for _, s := range symbolsOf(g) {
			one, two := must(items.Goto(g, a, s)), must(items.Goto(g, b, s))
			if !same(must(items.Goto(g, items.Union(a, b), s)), items.Union(one, two)) {
				t.Fatal("Goto of a Union:", g, a, b, s)
			}
			if !slices.Equal(items.Cores(one), items.Cores(must(items.Goto(g, other, s)))) {
				t.Fatal("cores of Goto:", g, a, other, s)
			}
			if e, _ := items.Check(g, one); e != api.OK {
				t.Fatal("Goto's list may not be:", g, a, s, one)
			}
		}
	}
}

// P10.1 to P10.4: what calls answer does not hang on the order of a map.
func TestTheSameTwice(t *testing.T) {
	g := greatest()
	l := must(items.Start(g))
	want := must(items.Closure(g, l))
	for range 20 {
		if !same(must(items.Closure(g, l)), want) || !same(must(items.Normal(g, want)), want) {
			t.Fatal("another answer")
		}
	}
}

// widen is a list with spare room behind it, all of it marked.
func widen[T any](l []T, mark T) []T {
	out := append(slices.Clone(l), mark, mark, mark)
	return out[:len(l):len(out)]
}

func whole[T any](l []T) []T { return slices.Clone(l[:cap(l)]) }

func roomyItems(l []api.Item) []api.Item {
	l = widen(l, item(77, 77, 77))
	for i := range l {
		l[i].Look = widen(l[i].Look, 77)
	}
	return l
}

// roomy is a grammar with spare room behind each list.
func roomy(g api.Grammar) api.Grammar {
	g.Terms, g.Nons = widen(g.Terms, "spare"), widen(g.Nons, "spare")
	g.Prods = widen(g.Prods, prod(77, term(77)))
	for i := range g.Prods {
		g.Prods[i].Right = widen(g.Prods[i].Right, term(77))
	}
	return g
}

// shownItems and shown are all that lists hold, spare room too, in memory of its own.
func shownItems(l []api.Item) []api.Item {
	l = whole(l)
	for i := range l {
		l[i].Look = whole(l[i].Look)
	}
	return l
}

func shown(g api.Grammar) api.Grammar {
	g.Terms, g.Nons, g.Prods = whole(g.Terms), whole(g.Nons), whole(g.Prods)
	for i := range g.Prods {
		g.Prods[i].Right = whole(g.Prods[i].Right)
	}
	return g
}

// P10.8: no call changes what is handed in, spare room too.
func TestArgumentsAreLeft(t *testing.T) {
	r := rand.New(rand.NewSource(1080))
	for range 1000 {
		g := roomy(anyGrammar(r, 4, 4, 9, 3))
		a, b := roomyItems(anyItems(r, g, 3)), roomyItems(anyItems(r, g, 3))
		strange := roomyItems(strangeItems(r, 6))
		wasG, wasA, wasB, wasStrange := shown(g), shownItems(a), shownItems(b), shownItems(strange)
		for _, l := range [][]api.Item{a, b, strange} {
			items.Check(g, l)
			items.Normal(g, l)
			items.Closure(g, l)
			items.Goto(g, l, non(g.Start))
			items.Kernel(l)
			items.Cores(l)
			items.Symbols(g, l)
			items.Union(l, a)
			items.Union(b, l)
			items.Within(l, a)
			items.Within(a, l)
			items.Within(l, l)
			for _, i := range l {
				items.Print(g, i)
			}
		}
		items.Start(g)
		if !reflect.DeepEqual(shown(g), wasG) {
			t.Fatal("a grammar was changed")
		}
		if !reflect.DeepEqual(shownItems(a), wasA) || !reflect.DeepEqual(shownItems(b), wasB) || !reflect.DeepEqual(shownItems(strange), wasStrange) {
			t.Fatal("a list was changed")
		}
	}
}

// spoil writes over a list and its room.
func spoil[T any](l []T, mark T) {
	for i := range l[:cap(l)] {
		l[:cap(l)][i] = mark
	}
}

// apart tells whether no list of an answer shares memory with another one of it: each is written over, the list of items last.
func apart(l []api.Item) bool {
	want := shownItems(l)
	for i := range l {
		spoil(l[i].Look, -100-i)
		spoil(want[i].Look, -100-i)
		if !reflect.DeepEqual(shownItems(l), want) {
			return false
		}
	}
	spoil(l, item(99, 99))
	return true
}

// answers are all lists of items that calls answer of two lists.
func answers(g api.Grammar, a, b []api.Item) [][]api.Item {
	l := [][]api.Item{
		must(items.Start(g)), must(items.Normal(g, a)), must(items.Closure(g, a)), items.Kernel(a),
		items.Union(a, b), items.Union(a, a), items.Union(a, nil), items.Union(nil, b),
	}
	for _, s := range symbolsOf(g) {
		l = append(l, must(items.Goto(g, a, s)))
	}
	return l
}

// P10.8: answers share memory neither with arguments nor with other answers, nor do two lists of one.
func TestAnswersShareNothing(t *testing.T) {
	r := rand.New(rand.NewSource(1081))
	for range 1000 {
		g := roomy(anyGrammar(r, 3, 3, 8, 3))
		a, b := roomyItems(anyItems(r, g, 2)), roomyItems(anyItems(r, g, 2))
		wasG, wasA, wasB := shown(g), shownItems(a), shownItems(b)
		all, again := answers(g, a, b), answers(g, a, b)
		var was [][]api.Item
		for _, l := range all {
			was = append(was, shownItems(l))
		}
		for i, l := range all {
			if !reflect.DeepEqual(shownItems(l), was[i]) || !apart(l) {
				t.Fatal("two lists share memory:", g, a, b, i)
			}
		}
		cores, behind := items.Cores(a), must(items.Symbols(g, a))
		spoil(cores, api.Core{Prod: 99})
		spoil(behind, term(99))
		if !reflect.DeepEqual(shown(g), wasG) || !reflect.DeepEqual(shownItems(a), wasA) || !reflect.DeepEqual(shownItems(b), wasB) {
			t.Fatal("an answer shares memory with an argument:", g, a, b)
		}
		for i, l := range answers(g, a, b) {
			if !same(l, again[i]) {
				t.Fatal("an answer's change is seen in the next:", g, a, b, i)
			}
		}
	}
}

// P10.8: Union of lists that do not rise shares nothing, either.
func TestStrangeAnswersShareNothing(t *testing.T) {
	r := rand.New(rand.NewSource(1082))
	for range 3000 {
		a, b := roomyItems(strangeItems(r, 5)), roomyItems(strangeItems(r, 5))
		wasA, wasB := shownItems(a), shownItems(b)
		for _, l := range [][]api.Item{items.Union(a, b), items.Union(b, b), items.Kernel(a), items.Kernel(b)} {
			if !apart(l) {
				t.Fatal("two lists share memory:", a, b)
			}
		}
		spoil(items.Cores(a), api.Core{Prod: 99})
		if !reflect.DeepEqual(shownItems(a), wasA) || !reflect.DeepEqual(shownItems(b), wasB) {
			t.Fatal("an answer shares memory with an argument:", a, b)
		}
	}
}
