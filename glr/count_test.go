package glr_test

import (
	"math"
	"math/rand"
	"slices"
	"testing"

	"gantry/api"
	"gantry/glr"
)

// heldOfAny holds Loops, Ambiguous and Count of any forest against the models.
func heldOfAny(t *testing.T, f api.Forest, seen map[string]int) {
	t.Helper()
	loops := glr.Loops(f)
	if want := modelLoops(f); !slices.Equal(loops, want) {
		t.Fatal("P24.3: Loops:", f, loops, want)
	}
	var ambiguous []int
	for n, node := range f.Nodes {
		if len(node.Alts) >= 2 {
			ambiguous = append(ambiguous, n)
		}
	}
	if l := glr.Ambiguous(f); !slices.Equal(l, ambiguous) {
		t.Fatal("P24.3: Ambiguous:", f, l)
	}
	count := modelCount(f)
	for _, most := range []int{1, 2, 3, 7, 4097, saturated} {
		if n, e := glr.Count(f, most); n != min(count, most) || e != api.OK {
			t.Fatal("P24.3: Count:", f, most, n, e, count)
		}
	}
	if n, e := glr.Count(f, math.MaxInt); e != api.OK || count < saturated && n != count || n < count {
		t.Fatal("P24.3: Count:", f, n, e, count)
	}
	switch {
	case count == 0:
		seen["none"]++
	case count == saturated:
		seen["endless"]++
	case len(loops) > 0:
		seen["loops, but an end"]++
	case count > 1:
		seen["some"]++
	}
}

// P24.3: every forest of one or two nodes with at most two alternatives of at most two kids, of which some are no nodes.
func TestAnySmall(t *testing.T) {
	kids := [][]int{nil, {0}, {1}, {2}, {0, 1}, {1, 1}, {1, -1}, {1, 0}, {math.MinInt}}
	lists := [][]api.ForestAlt{nil}
	for _, a := range kids {
		lists = append(lists, []api.ForestAlt{{Kids: a}})
		for _, b := range kids {
			lists = append(lists, []api.ForestAlt{{Kids: a}, {Prod: 7, Kids: b}})
		}
	}
	seen := map[string]int{}
	var nodes []api.ForestNode
	for _, s := range syms(term(0), non(0), api.Sym{Kind: 5}) {
		for _, l := range lists {
			nodes = append(nodes, api.ForestNode{Sym: s, Alts: l})
		}
	}
	for _, m := range nodes {
		heldOfAny(t, forestOf(m), seen)
		for _, n := range nodes {
			heldOfAny(t, forestOf(m, n), seen)
		}
	}
	seenAll(t, seen, 500, "none", "endless", "loops, but an end", "some")
}

// anyForest is no call's: numbers of all sorts, and kids that are no nodes.
func anyForest(r *rand.Rand, nodes, alts, kids int) api.Forest {
	var f api.Forest
	count := 1 + r.Intn(nodes)
	for n := range count {
		node := api.ForestNode{Sym: api.Sym{Kind: api.SymKind(1 + r.Intn(2)), N: r.Intn(9) - 3}, From: r.Intn(5) - 2, To: r.Intn(5) - 2}
		if r.Intn(20) == 0 {
			node.Sym.Kind = api.SymKind(r.Intn(9) - 4)
		}
		for range r.Intn(alts + 1) {
			var alt api.ForestAlt
			for range r.Intn(kids + 1) {
				// Mostly those behind it, so that not all come back.
				kid := n + 1 + r.Intn(count)
				if kid >= count || r.Intn(12) == 0 {
					kid = r.Intn(count)
				}
				if r.Intn(40) == 0 {
					kid = []int{-1, count, math.MaxInt, math.MinInt}[r.Intn(4)]
				}
				alt.Kids = append(alt.Kids, kid)
			}
			node.Alts = append(node.Alts, alt)
		}
		f.Nodes = append(f.Nodes, node)
	}
	return f
}

// P24.3: greater ones.
func TestAnyForest(t *testing.T) {
	r := rand.New(rand.NewSource(243))
	seen := map[string]int{}
	for range 60000 {
		heldOfAny(t, anyForest(r, 9, 3, 3), seen)
	}
	seenAll(t, seen, 1000, "none", "endless", "loops, but an end", "some")
}

// P24.3: a most below 1, of any forest.
func TestCountFaults(t *testing.T) {
	for _, f := range []api.Forest{{}, {Nodes: []api.ForestNode{}}, pairsForest(), forestOf(api.ForestNode{})} {
		for _, most := range []int{0, -1, math.MinInt} {
			if n, e := glr.Count(f, most); n != 0 || e != api.ErrArg {
				t.Error(f, most, n, e)
			}
		}
	}
	for _, f := range []api.Forest{{}, {Nodes: []api.ForestNode{}}, forestOf(api.ForestNode{}), forestOf(nodeOf(non(0), 0, 0))} {
		for _, most := range []int{1, 9, math.MaxInt} {
			if n, e := glr.Count(f, most); n != 0 || e != api.OK {
				t.Error(f, most, n, e)
			}
		}
		if len(glr.Loops(f))+len(glr.Ambiguous(f)) > 0 {
			t.Error(f, glr.Loops(f), glr.Ambiguous(f))
		}
	}
}

// power is a forest with base^exponent trees: that many kids in a row, each with base alternatives.
func power(base, exponent int) api.Forest {
	kids := slices.Repeat([]int{1}, exponent)
	root := api.ForestNode{Sym: non(0), Alts: []api.ForestAlt{{Kids: kids}}}
	return forestOf(root, api.ForestNode{Sym: non(1), Alts: make([]api.ForestAlt, base)})
}

// P24.3: counts do not wrap round, and stop neither too early nor too late.
func TestGreatCounts(t *testing.T) {
	for _, c := range []struct{ base, exponent, most, want int }{
		{2, 62, math.MaxInt, 1 << 62},
		{2, 62, 1<<62 + 1, 1 << 62},
		{2, 62, 1 << 62, 1 << 62},
		{2, 62, 1<<62 - 1, 1<<62 - 1},
		{2, 63, math.MaxInt, math.MaxInt},
		{2, 64, math.MaxInt, math.MaxInt},
		{2, 65, math.MaxInt - 1, math.MaxInt - 1},
		{3, 39, math.MaxInt, 4052555153018976267},
		{3, 40, math.MaxInt, math.MaxInt},
		{3, 10000, math.MaxInt, math.MaxInt},
		{7, 4, 2401, 2401},
		{7, 4, 2400, 2400},
		{7, 4, 2402, 2401},
		{1, 10000, 5, 1},
		{0, 1, 5, 0},
		{0, 0, 5, 1},
		{9, 0, 5, 1},
	} {
		if n, e := glr.Count(power(c.base, c.exponent), c.most); n != c.want || e != api.OK {
			t.Error("power:", c, n, e)
		}
	}
	// Sums: the same node by many alternatives.
	for _, alts := range []int{1, 2, 3, 4} {
		f := power(2, 62)
		f.Nodes = append([]api.ForestNode{{Sym: non(2)}}, f.Nodes...)
		f.Nodes[1].Alts[0].Kids = slices.Repeat([]int{2}, 62)
		for range alts {
			f.Nodes[0].Alts = append(f.Nodes[0].Alts, api.ForestAlt{Kids: []int{1}})
		}
		want := map[int]int{1: 1 << 62}[alts]
		if alts > 1 {
			want = math.MaxInt
		}
		if n, e := glr.Count(f, math.MaxInt); n != want || e != api.OK {
			t.Error("sums:", alts, n, e)
		}
	}
}

// P24.3: a count of a great factor beside a kid without a tree is none.
func TestNothingBesideMany(t *testing.T) {
	f := power(5, 40)
	f.Nodes[0].Alts[0].Kids = append(f.Nodes[0].Alts[0].Kids, 2)
	f.Nodes = append(f.Nodes, nodeOf(non(2), 0, 0, []int{0, 2}))
	if n, e := glr.Count(f, math.MaxInt); n != 0 || e != api.OK {
		t.Error("Count:", n, e)
	}
	// It loops beside one without a tree: the other alternative counts alone.
	f = forestOf(nodeOf(non(0), 0, 0, []int{0, 0, 1}, []int{1}), nodeOf(non(1), 0, 0, []int{2, 1}))
	if n, e := glr.Count(f, 9); n != 1 || e != api.OK {
		t.Error("Count:", n, e)
	}
	if l := glr.Loops(f); !slices.Equal(l, []int{0, 1}) {
		t.Error("Loops:", l)
	}
	// A terminal's node with alternatives is no leaf.
	f = forestOf(nodeOf(term(0), 0, 1, []int{0, 1, 1}, []int{0, 0}), nodeOf(term(0), 0, 1))
	if n, e := glr.Count(f, 9); n != 9 || e != api.OK {
		t.Error("Count:", n, e)
	}
}
