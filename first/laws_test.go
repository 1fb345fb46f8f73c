package first_test

import (
	"math/rand"
	"reflect"
	"slices"
	"testing"

	"gantry/api"
	"gantry/first"
)

// P6.4: what Nullable and First answer is closed.
func TestLeastIsTaken(t *testing.T) {
	r := rand.New(rand.NewSource(640))
	for range 2000 {
		g := anyGrammar(r, 64, 64, 256, 16)
		nullable, firsts := must(first.Nullable(g)), must(first.First(g))
		if e, at := first.CheckNullable(g, nullable); e != api.OK || at != 0 {
			t.Fatal("CheckNullable:", e, at)
		}
		if e, at := first.CheckFirst(g, nullable, firsts); e != api.OK || at != 0 {
			t.Fatal("CheckFirst:", e, at)
		}
	}
}

// grown is a claim out of any claim that both checks take: what they miss is put in.
func grown(r *rand.Rand, g api.Grammar) ([]bool, [][]int) {
	nullable := anyBools(r, len(g.Nons))
	for e, at := first.CheckNullable(g, nullable); e != api.OK; e, at = first.CheckNullable(g, nullable) {
		nullable[g.Prods[at].Left] = true
	}
	firsts := anyLists(r, len(g.Nons), len(g.Terms), true)
	for e, at := first.CheckFirst(g, nullable, firsts); e != api.OK; e, at = first.CheckFirst(g, nullable, firsts) {
		p := g.Prods[at]
		firsts[p.Left] = once(append(firsts[p.Left], modelFirst(nullable, firsts, p.Right)...))
	}
	return nullable, firsts
}

// P6.4: every claim that the checks take has the least ones as a part.
func TestLeastIsPart(t *testing.T) {
	r := rand.New(rand.NewSource(641))
	for range 3000 {
		g := anyGrammar(r, 6, 6, 12, 4)
		least, leastFirsts := must(first.Nullable(g)), must(first.First(g))
		nullable, firsts := grown(r, g)
		for n := range g.Nons {
			if least[n] && !nullable[n] || !part(leastFirsts[n], firsts[n]) {
				t.Fatalf("%v: %v, %v; taken: %v, %v", g.Prods, least, leastFirsts, nullable, firsts)
			}
		}
	}
}

func leaf(kind int) api.Tree { return api.Tree{Prod: -1, Tok: api.Token{Kind: kind}} }

// yield is the terminals of a tree's leaves.
func yield(t api.Tree) []int {
	if t.Prod < 0 {
		return []int{t.Tok.Kind}
	}
	var l []int
	for _, kid := range t.Kids {
		l = append(l, yield(kid)...)
	}
	return l
}

func height(t api.Tree) int {
	if t.Prod < 0 {
		return 0
	}
	most := 0
	for _, kid := range t.Kids {
		most = max(most, height(kid))
	}
	return most + 1
}

// anyTrees makes trees of a grammar, by their roots: each round over those of the rounds ahead.
func anyTrees(r *rand.Rand, g api.Grammar, rounds int) [][]api.Tree {
	pool := make([][]api.Tree, len(g.Nons))
	for range rounds {
		next := make([][]api.Tree, len(g.Nons))
		for i, p := range g.Prods {
			node := api.Tree{Prod: i}
			for _, s := range p.Right {
				if s.Kind == api.SymTerm {
					node.Kids = append(node.Kids, leaf(s.N))
				} else if trees := pool[s.N]; len(trees) > 0 {
					node.Kids = append(node.Kids, trees[r.Intn(len(trees))])
				}
			}
			if len(node.Kids) == len(p.Right) {
				next[p.Left] = append(next[p.Left], node)
			}
		}
		for n := range pool {
			pool[n] = append(pool[n], next[n]...)
		}
	}
	return pool
}

// P6.5: a tree's yield is empty and its root nullable, or begins with what first has; by the least claims and by any that the checks take.
func TestTreesAreTold(t *testing.T) {
	r := rand.New(rand.NewSource(65))
	empty, filled := 0, 0
	for range 1500 {
		g := anyGrammar(r, 4, 4, 9, 3)
		nullable, firsts := must(first.Nullable(g)), must(first.First(g))
		heights := must(first.Heights(g))
		more, moreFirsts := grown(r, g)
		for n, trees := range anyTrees(r, g, 5) {
			for _, tree := range trees {
				l := yield(tree)
				if len(l) == 0 {
					empty++
					if !nullable[n] || !more[n] || heights[n] < 1 || heights[n] > height(tree) {
						t.Fatalf("%v: %d gives nothing; %v, %v, %v", g.Prods, n, nullable, more, heights)
					}
					continue
				}
				filled++
				if !slices.Contains(firsts[n], l[0]) || !slices.Contains(moreFirsts[n], l[0]) {
					t.Fatalf("%v: %d gives %v; %v, %v", g.Prods, n, l, firsts, moreFirsts)
				}
			}
		}
	}
	if empty < 1000 || filled < 1000 {
		t.Error("too few trees:", empty, filled)
	}
}

// witnesses are, for each nonterminal and each beginning (-1: nothing), a tree; of those that yield nothing one of the lowest.
func witnesses(g api.Grammar) []map[int]api.Tree {
	known := make([]map[int]api.Tree, len(g.Nons))
	for n := range known {
		known[n] = map[int]api.Tree{}
	}
	for grew := true; grew; {
		grew = false
		next := make([]map[int]api.Tree, len(g.Nons))
		for n := range next {
			next[n] = map[int]api.Tree{}
		}
		for i, p := range g.Prods {
			for begin, kids := range beginnings(known, p.Right) {
				next[p.Left][begin] = api.Tree{Prod: i, Kids: kids}
			}
		}
		for n := range next {
			for begin, tree := range next[n] {
				if _, there := known[n][begin]; !there {
					known[n][begin] = tree
					grew = true
				}
			}
		}
	}
	return known
}

// beginnings are what trees of the symbols may begin with, each with the trees.
func beginnings(known []map[int]api.Tree, l []api.Sym) map[int][]api.Tree {
	all := map[int][]api.Tree{-1: nil}
	for _, s := range l {
		one := map[int]api.Tree{}
		if s.Kind == api.SymTerm {
			one[s.N] = leaf(s.N)
		} else {
			one = known[s.N]
		}
		next := map[int][]api.Tree{}
		for begin, kids := range all {
			for own, tree := range one {
				if begin >= 0 {
					own = begin
				}
				next[own] = append(slices.Clone(kids), tree)
			}
		}
		all = next
	}
	return all
}

// P6.5, the other way round: what is told has a tree, where no nonterminal is barren; one without leaves, wherever it is told.
func TestWhatIsToldHasTrees(t *testing.T) {
	r := rand.New(rand.NewSource(66))
	asked := 0
	for range 3000 {
		g := anyGrammar(r, 3, 4, 9, 3)
		nullable, firsts, heights := must(first.Nullable(g)), must(first.First(g)), must(first.Heights(g))
		known := witnesses(g)
		fruitful := !slices.ContainsFunc(known, func(m map[int]api.Tree) bool { return len(m) == 0 })
		for n := range g.Nons {
			tree, there := known[n][-1]
			if nullable[n] != there || nullable[n] != (heights[n] > 0) || there && (height(tree) != heights[n] || len(yield(tree)) != 0) {
				t.Fatalf("%v: %d: %v, height %d, %v", g.Prods, n, nullable[n], heights[n], tree)
			}
			for _, x := range firsts[n] {
				if !fruitful {
					continue
				}
				asked++
				if tree, there := known[n][x]; !there || yield(tree)[0] != x {
					t.Fatalf("%v: %d begins with %d, but there is no tree", g.Prods, n, x)
				}
			}
		}
	}
	if asked < 1000 {
		t.Error("too few asked:", asked)
	}
}

// eachNode tells of all nodes of a tree the production and the token behind.
func eachNode(tree api.Tree, behind int, do func(prod, behind int)) {
	if tree.Prod < 0 {
		return
	}
	do(tree.Prod, behind)
	for _, kid := range slices.Backward(tree.Kids) {
		eachNode(kid, behind, do)
		if l := yield(kid); len(l) > 0 {
			behind = l[0]
		}
	}
}

// P6.6: behind each node of a tree of the start stands what Follow has.
func TestFollowOfTrees(t *testing.T) {
	r := rand.New(rand.NewSource(67))
	asked := 0
	for range 1500 {
		g := anyGrammar(r, 4, 4, 9, 3)
		follow := must(first.Follow(g))
		for _, tree := range anyTrees(r, g, 5)[g.Start] {
			eachNode(tree, len(g.Terms), func(prod, behind int) {
				asked++
				if !slices.Contains(follow[g.Prods[prod].Left], behind) {
					t.Fatalf("%v: %d behind a node of %d; %v", g.Prods, behind, prod, follow)
				}
			})
		}
	}
	if asked < 1000 {
		t.Error("too few asked:", asked)
	}
}

// widen is a list with spare room behind it, all of it marked.
func widen[T any](l []T, mark T) []T {
	out := append(slices.Clone(l), mark, mark, mark)
	return out[:len(l):len(out)]
}

func widenLists(lists [][]int) [][]int {
	lists = cloned(lists)
	for i := range lists {
		lists[i] = widen(lists[i], 1)
	}
	return widen(lists, []int{1})
}

// allOf is a list with its spare room, and that of the lists in it.
func allOf(lists [][]int) [][]int {
	l := slices.Clone(lists[:cap(lists)])
	for i := range l {
		l[i] = slices.Clone(l[i][:cap(l[i])])
	}
	return l
}

// roomy is a grammar with spare room behind each list.
func roomy(g api.Grammar) api.Grammar {
	g.Terms, g.Nons = widen(g.Terms, "spare"), widen(g.Nons, "spare")
	g.Prods = widen(g.Prods, prod(77, term(77)))
	for i := range g.Prods {
		g.Prods[i].Right = widen(g.Prods[i].Right, term(77))
	}
	return g
}

// shown is all that a grammar's lists hold, spare room too, in memory of its own.
func shown(g api.Grammar) api.Grammar {
	g.Terms, g.Nons = slices.Clone(g.Terms[:cap(g.Terms)]), slices.Clone(g.Nons[:cap(g.Nons)])
	g.Prods = slices.Clone(g.Prods[:cap(g.Prods)])
	for i := range g.Prods {
		g.Prods[i].Right = slices.Clone(g.Prods[i].Right[:cap(g.Prods[i].Right)])
	}
	return g
}

// P6.7: no call changes what is handed in, spare room too.
func TestArgumentsAreLeft(t *testing.T) {
	r := rand.New(rand.NewSource(68))
	for range 300 {
		g := roomy(anyGrammar(r, 4, 4, 9, 3))
		nullable := widen(anyBools(r, len(g.Nons)), true)
		firsts := widenLists(anyLists(r, len(g.Nons), len(g.Terms), r.Intn(2) == 0))
		l, look := widen(anySyms(r, g, 4), term(77)), widen(anyList(r, len(g.Terms)+1), 1)
		wasG, wasNullable, wasFirsts := shown(g), slices.Clone(nullable[:cap(nullable)]), allOf(firsts)
		wasL, wasLook := slices.Clone(l[:cap(l)]), slices.Clone(look[:cap(look)])
		first.Nullable(g)
		first.First(g)
		first.Follow(g)
		first.Heights(g)
		first.Of(g, nullable, firsts, l, look)
		first.IsNullable(g, nullable, l)
		first.CheckNullable(g, nullable)
		first.CheckFirst(g, nullable, firsts)
		if !reflect.DeepEqual(shown(g), wasG) || !slices.Equal(nullable[:cap(nullable)], wasNullable) || !sameLists(allOf(firsts), wasFirsts) {
			t.Fatal("a grammar or a claim was changed")
		}
		if !slices.Equal(l[:cap(l)], wasL) || !slices.Equal(look[:cap(look)], wasLook) {
			t.Fatal("symbols or a lookahead were changed")
		}
	}
}

// spoil writes over a list and its room.
func spoil[T any](l []T, mark T) {
	for i := range l[:cap(l)] {
		l[:cap(l)][i] = mark
	}
}

// apartLists tells whether no list shares memory with one behind it.
func apartLists(lists [][]int) bool {
	was := cloned(lists)
	for i, l := range lists {
		spoil(l, -7)
		if !sameLists(lists[i+1:], was[i+1:]) {
			return false
		}
	}
	return true
}

// P6.7: answers share memory neither with arguments nor with other answers, nor do two lists of one.
func TestAnswersShareNothing(t *testing.T) {
	r := rand.New(rand.NewSource(69))
	for range 300 {
		g := anyGrammar(r, 4, 4, 9, 3)
		nullable, firsts, follow, heights := must(first.Nullable(g)), must(first.First(g)), must(first.Follow(g)), must(first.Heights(g))
		look := []int{0, len(g.Terms)}
		var ofs [][]int
		for n := range g.Nons {
			ofs = append(ofs, must(first.Of(g, nullable, firsts, syms(non(n)), look)))
		}
		ofs = append(ofs, must(first.Of(g, nullable, firsts, nil, look)))
		was := allOf(append(slices.Concat(firsts, follow), heights, look))
		if !apartLists(ofs) || !sameLists(allOf(append(slices.Concat(firsts, follow), heights, look)), was) {
			t.Fatal("an answer of Of shares memory")
		}
		if !apartLists(append(slices.Concat(firsts, follow), heights)) {
			t.Fatal("two lists share memory")
		}
		spoil(nullable, true)
		if !slices.Equal(must(first.Nullable(g)), positive(modelHeights(g))) || !slices.Equal(must(first.Heights(g)), modelHeights(g)) {
			t.Fatal("an answer's change is seen in the next")
		}
	}
}

func positive(heights []int) []bool {
	l := make([]bool, len(heights))
	for n, h := range heights {
		l[n] = h > 0
	}
	return l
}
