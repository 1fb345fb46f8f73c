package glr_test

import (
	"math"
	"math/rand"
	"slices"
	"testing"

	"gantry/api"
	"gantry/glr"
	"gantry/grammar"
)

// pairs is n0 -> n1 n1 (0), n1 -> t0 (1), n1 -> nothing (2), n0 -> n1 (3), n1 -> n0 t1 (4).
func pairs() api.Grammar {
	return grammarOf(2, 2, 0, prod(0, non(1), non(1)), prod(1, term(0)), prod(1), prod(0, non(1)), prod(1, non(0), term(1)))
}

// pairsForest is all trees of t0 by pairs.
func pairsForest() api.Forest {
	return forestOf(
		nodeOf(non(0), 0, 1, []int{0, 1, 2}, []int{0, 2, 3}, []int{3, 2}),
		nodeOf(non(1), 0, 0, []int{2}),
		nodeOf(non(1), 0, 1, []int{1, 4}),
		nodeOf(non(1), 1, 1, []int{2}),
		nodeOf(term(0), 0, 1),
	)
}

// P24.2: each fault by itself, and the node that has it. The one whose kid a spoiled node is may have it, too: then it is told, being ahead.
func TestCheckNodes(t *testing.T) {
	g := pairs()
	if e, n := glr.Check(g, pairsForest()); e != api.OK || n != 5 {
		t.Fatal("no fault:", e, n)
	}
	more := func(n api.ForestNode) func(*api.Forest) {
		return func(f *api.Forest) { f.Nodes = append(f.Nodes, n) }
	}
	for _, c := range []struct {
		name   string
		at     int
		change func(f *api.Forest)
	}{
		{"a terminal that is longer", 5, more(nodeOf(term(1), 0, 2))},
		{"a terminal of nothing", 5, more(nodeOf(term(1), 1, 1))},
		{"a terminal with an alternative", 4, func(f *api.Forest) { f.Nodes[4].Alts = f.Nodes[1].Alts }},
		{"a terminal with an alternative over itself", 4, func(f *api.Forest) { f.Nodes[4].Alts = []api.ForestAlt{{Prod: 1, Kids: []int{4}}} }},
		{"a nonterminal without an alternative", 1, func(f *api.Forest) { f.Nodes[1].Alts = nil }},
		{"the end marker", 5, more(nodeOf(term(2), 0, 1))},
		{"a terminal below 0", 5, more(nodeOf(term(-1), 0, 1))},
		{"no symbol", 5, more(nodeOf(api.Sym{}, 0, 1))},
		{"no symbol, with an alternative", 5, more(nodeOf(api.Sym{}, 0, 0, []int{2}))},
		{"a third kind", 5, more(nodeOf(api.Sym{Kind: 3}, 0, 1))},
		{"no such nonterminal", 5, more(nodeOf(non(2), 0, 0, []int{2}))},
		{"a nonterminal below 0", 5, more(nodeOf(non(-1), 0, 0, []int{2}))},
		{"a terminal from below 0", 5, more(nodeOf(term(0), -1, 0))},
		{"a nonterminal from below 0", 5, more(nodeOf(non(1), -1, -1, []int{2}))},
		{"to below from", 5, more(nodeOf(non(1), 2, 1, []int{2}))},
		{"to far below from", 5, more(nodeOf(term(0), math.MaxInt, math.MinInt))},
		{"another's production", 3, func(f *api.Forest) { f.Nodes[3].Alts[0] = api.ForestAlt{Prod: 3, Kids: []int{3}} }},
		{"behind the last production", 3, func(f *api.Forest) { f.Nodes[3].Alts[0].Prod = 5 }},
		{"a production below 0", 3, func(f *api.Forest) { f.Nodes[3].Alts[0].Prod = -1 }},
		{"too many kids", 3, func(f *api.Forest) { f.Nodes[3].Alts[0].Kids = []int{3} }},
		{"too few kids", 0, func(f *api.Forest) { f.Nodes[0].Alts[1].Kids = []int{2} }},
		{"behind the last node", 0, func(f *api.Forest) { f.Nodes[0].Alts[1].Kids[1] = 5 }},
		{"a node below 0", 0, func(f *api.Forest) { f.Nodes[0].Alts[1].Kids[1] = -1 }},
		{"a node of any number", 0, func(f *api.Forest) { f.Nodes[0].Alts[1].Kids[1] = math.MinInt }},
		{"a kid of another symbol", 0, func(f *api.Forest) { f.Nodes[0].Alts[1].Kids[0] = 4 }},
		{"the first kid begins later", 0, func(f *api.Forest) { f.Nodes[0].Alts[1].Kids = []int{3, 3} }},
		{"a gap between kids", 0, func(f *api.Forest) { f.Nodes[0].Alts[0].Kids = []int{1, 3} }},
		{"a kid begins ahead", 0, func(f *api.Forest) { f.Nodes[0].Alts[1].Kids = []int{2, 2} }},
		{"the last kid ends ahead", 0, func(f *api.Forest) { f.Nodes[0].Alts[0].Kids = []int{1, 1} }},
		{"no kids over a part", 5, more(nodeOf(non(1), 1, 2, []int{2}))},
		{"one production's turned", 0, func(f *api.Forest) { slices.Reverse(f.Nodes[0].Alts[:2]) }},
		{"productions turned", 0, func(f *api.Forest) { slices.Reverse(f.Nodes[0].Alts[1:]) }},
		{"an alternative twice", 3, func(f *api.Forest) { f.Nodes[3].Alts = append(f.Nodes[3].Alts, f.Nodes[3].Alts[0]) }},
		{"an alternative over kids twice", 0, func(f *api.Forest) { f.Nodes[0].Alts = slices.Insert(f.Nodes[0].Alts, 1, f.Nodes[0].Alts[0]) }},
		{"a terminal's node twice", 5, more(nodeOf(term(0), 0, 1))},
		{"a nonterminal's node twice", 5, more(nodeOf(non(1), 0, 1, []int{1, 4}))},
		{"root twice", 5, more(nodeOf(non(0), 0, 1, []int{3, 2}))},
		{"two faults", 1, func(f *api.Forest) { f.Nodes[1].Alts, f.Nodes[3].Alts = nil, nil }},
		{"a kid that is longer", 2, func(f *api.Forest) { f.Nodes[4].To = 2 }},
	} {
		f := pairsForest()
		c.change(&f)
		if e, at := glr.Check(g, f); e != api.ErrForest || at != c.at {
			t.Error("P24.2:", c.name, e, at)
		}
		heldOfCheck(t, g, f)
	}
}

// P24.2: faults of a forest whose nodes may all be.
func TestCheckWhole(t *testing.T) {
	g := pairs()
	if e, n := glr.Check(g, api.Forest{}); e != api.OK || n != 0 {
		t.Error("no nodes:", e, n)
	}
	for name, f := range map[string]api.Forest{
		"node 0 is another nonterminal's": forestOf(nodeOf(non(1), 0, 1, []int{1, 1}), nodeOf(term(0), 0, 1)),
		"node 0 is a terminal's":          forestOf(nodeOf(term(0), 0, 1)),
		"node 0 begins later":             forestOf(nodeOf(non(0), 1, 2, []int{3, 1}), nodeOf(non(1), 1, 2, []int{1, 2}), nodeOf(term(0), 1, 2)),
		"a terminal that is not met":      forestOf(nodeOf(non(0), 0, 0, []int{3, 1}), nodeOf(non(1), 0, 0, []int{2}), nodeOf(term(0), 0, 1)),
		"a nonterminal that is not met":   forestOf(nodeOf(non(0), 0, 0, []int{3, 1}), nodeOf(non(1), 0, 0, []int{2}), nodeOf(non(1), 1, 1, []int{2})),
		"two that meet one another":       forestOf(nodeOf(non(0), 0, 0, []int{3, 1}), nodeOf(non(1), 0, 0, []int{2}), nodeOf(non(0), 4, 4, []int{3, 3}), nodeOf(non(1), 4, 4, []int{2})),
		"kids turned": forestOf(
			nodeOf(non(0), 0, 1, []int{0, 2, 1}), nodeOf(non(1), 0, 1, []int{1, 3}), nodeOf(non(1), 0, 0, []int{2}), nodeOf(term(0), 0, 1)),
		"a kid's kid ahead of a kid": forestOf(
			nodeOf(non(0), 0, 1, []int{0, 1, 3}), nodeOf(non(1), 0, 1, []int{1, 2}), nodeOf(term(0), 0, 1), nodeOf(non(1), 1, 1, []int{2})),
	} {
		if e, n := glr.Check(g, f); e != api.ErrForest || n != len(f.Nodes) {
			t.Error("P24.2:", name, e, n)
		}
		heldOfCheck(t, g, f)
	}
	few := forestOf(nodeOf(non(0), 0, 1, []int{3, 1}), nodeOf(non(1), 0, 1, []int{1, 2}), nodeOf(term(0), 0, 1))
	if e, n := glr.Check(g, few); e != api.OK || n != 3 {
		t.Error("P24.2: not all alternatives:", e, n)
	}
	// It may hang on itself alone, and have no tree: that is not asked.
	loop := grammarOf(1, 1, 0, prod(0, non(0)), prod(0, term(0)))
	if e, n := glr.Check(loop, forestOf(nodeOf(non(0), 0, math.MaxInt, []int{0, 0}))); e != api.OK || n != 1 {
		t.Error("P24.2: a loop:", e, n)
	}
}

func heldOfCheck(t *testing.T, g api.Grammar, f api.Forest) api.Errno {
	t.Helper()
	e, at := glr.Check(g, f)
	if want, n := modelCheck(g, f); e != want || at != n {
		t.Fatal("P24.2: Check:", g.Prods, g.Start, f, e, at, want, n)
	}
	return e
}

// spoiled is a forest in which one thing is another.
func spoiled(r *rand.Rand, f api.Forest) api.Forest {
	f = copyOf(f)
	if len(f.Nodes) == 0 {
		return f
	}
	at := r.Intn(len(f.Nodes))
	n := &f.Nodes[at]
	near := func(x int) int { return x + []int{-1, 1, 1, math.MaxInt, math.MinInt}[r.Intn(5)] }
	switch r.Intn(12) {
	case 0:
		n.From = near(n.From)
	case 1:
		n.To = near(n.To)
	case 2:
		n.Sym.N = near(n.Sym.N)
	case 3:
		n.Sym.Kind = api.SymKind(r.Intn(4))
	case 4:
		f.Nodes = slices.Insert(f.Nodes, r.Intn(len(f.Nodes)+1), *n)
	case 5:
		f.Nodes = slices.Delete(f.Nodes, at, at+1)
	case 6:
		other := r.Intn(len(f.Nodes))
		f.Nodes[at], f.Nodes[other] = f.Nodes[other], f.Nodes[at]
	case 7:
		return renumbered(f, at, r.Intn(len(f.Nodes)))
	default:
		spoilAlts(r, n, len(f.Nodes), near)
	}
	return f
}

// spoilAlts changes the alternatives of a node.
func spoilAlts(r *rand.Rand, n *api.ForestNode, nodes int, near func(int) int) {
	if len(n.Alts) == 0 {
		n.Alts = []api.ForestAlt{{Prod: r.Intn(3)}}
		return
	}
	at := r.Intn(len(n.Alts))
	alt := &n.Alts[at]
	switch r.Intn(7) {
	case 0:
		alt.Prod = near(alt.Prod)
	case 1:
		n.Alts = slices.Insert(n.Alts, r.Intn(len(n.Alts)+1), *alt)
	case 2:
		n.Alts = slices.Delete(n.Alts, at, at+1)
	case 3:
		other := r.Intn(len(n.Alts))
		n.Alts[at], n.Alts[other] = n.Alts[other], n.Alts[at]
	case 4:
		alt.Kids = append(alt.Kids, r.Intn(nodes))
	case 5:
		if len(alt.Kids) > 0 {
			alt.Kids = alt.Kids[1:]
		}
	default:
		if len(alt.Kids) > 0 {
			alt.Kids[r.Intn(len(alt.Kids))] = r.Intn(nodes+2) - 1
		}
	}
}

// renumbered is the same forest, two of whose nodes have each other's number.
func renumbered(f api.Forest, a, b int) api.Forest {
	f.Nodes[a], f.Nodes[b] = f.Nodes[b], f.Nodes[a]
	for _, n := range f.Nodes {
		for _, alt := range n.Alts {
			for i, kid := range alt.Kids {
				switch kid {
				case a:
					alt.Kids[i] = b
				case b:
					alt.Kids[i] = a
				}
			}
		}
	}
	return f
}

// P24.2: forests in which one to three things are others.
func TestCheckSpoiled(t *testing.T) {
	r := rand.New(rand.NewSource(242))
	seen := map[string]int{}
	for range 6000 {
		g := anyGrammar(r, 2, 3, 8, 3)
		f := must(glr.Forest(g, text(anyKinds(r, g, 4)...)))
		if len(f.Nodes) == 0 || len(f.Nodes) > 40 {
			continue
		}
		heldOfCheck(t, g, f)
		for range 10 {
			h := f
			for range 1 + r.Intn(3) {
				h = spoiled(r, h)
			}
			e := heldOfCheck(t, g, h)
			if _, at := modelCheck(g, h); e == api.OK {
				seen["none"]++
			} else if at == len(h.Nodes) {
				seen["whole"]++
			} else if at > 1 {
				seen["behind"]++
			}
		}
	}
	seenAll(t, seen, 300, "none", "whole", "behind")
}

// P24.2: every forest of at most two nodes with short alternatives.
func TestCheckSmall(t *testing.T) {
	g := grammarOf(1, 1, 0, prod(0, non(0)), prod(0, term(0)), prod(0))
	if e, _ := grammar.Check(g); e != api.OK {
		t.Fatal(e)
	}
	alts := []api.ForestAlt{}
	for p := -1; p < 4; p++ {
		alts = append(alts, api.ForestAlt{Prod: p})
		for kid := -1; kid < 3; kid++ {
			alts = append(alts, api.ForestAlt{Prod: p, Kids: []int{kid}})
		}
	}
	lists := [][]api.ForestAlt{nil}
	for _, a := range alts {
		lists = append(lists, []api.ForestAlt{a})
	}
	lists = append(lists, []api.ForestAlt{{Prod: 0, Kids: []int{0}}, {Prod: 1, Kids: []int{1}}}, []api.ForestAlt{{Prod: 0, Kids: []int{1}}, {Prod: 2}}, []api.ForestAlt{{Prod: 2}, {Prod: 0, Kids: []int{1}}})
	var nodes []api.ForestNode
	for _, s := range syms(term(0), term(1), non(0), non(1), api.Sym{}) {
		for from := -1; from < 2; from++ {
			for to := from - 1; to < from+2; to++ {
				for _, l := range lists {
					nodes = append(nodes, api.ForestNode{Sym: s, From: from, To: to, Alts: l})
				}
			}
		}
	}
	may := 0
	for _, m := range nodes {
		if heldOfCheck(t, g, forestOf(m)) == api.OK {
			may++
		}
		if m.Sym != non(0) || m.From != 0 {
			continue
		}
		for _, n := range nodes {
			if heldOfCheck(t, g, forestOf(m, n)) == api.OK {
				may++
			}
		}
	}
	if may < 5 {
		t.Error("too few:", may)
	}
}
