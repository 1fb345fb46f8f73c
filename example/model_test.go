package example_test

import (
	"cmp"
	"math/rand"
	"slices"
	"strconv"
	"testing"

	"gantry/api"
	"gantry/example"
	"gantry/grammar"
	"gantry/lookahead"
	"gantry/lrzero"
	"gantry/notation"
	"gantry/sentence"
	"gantry/table"
	"gantry/trees"
	"gantry/trim"
)

func term(n int) api.Sym { return api.Sym{Kind: api.SymTerm, N: n} }
func non(n int) api.Sym  { return api.Sym{Kind: api.SymNon, N: n} }

func prod(left int, right ...api.Sym) api.Prod {
	return api.Prod{Left: left, Right: right, Prec: -1}
}

func shift(to int) api.Action    { return api.Action{Kind: api.ActShift, Arg: to} }
func reduce(prod int) api.Action { return api.Action{Kind: api.ActReduce, Arg: prod} }
func accept() api.Action         { return api.Action{Kind: api.ActAccept} }

func leaf(kind int, text string) api.Tree {
	return api.Tree{Prod: -1, Tok: api.Token{Kind: kind, Text: text}}
}

func node(prod int, kids ...api.Tree) api.Tree { return api.Tree{Prod: prod, Kids: kids} }

// numbered are that many names: the letter, and the numbers from 0 on behind it.
func numbered(letter string, n int) []string {
	var l []string
	for i := range n {
		l = append(l, letter+strconv.Itoa(i))
	}
	return l
}

func grammarOf(terms, nons, start int, prods ...api.Prod) api.Grammar {
	return api.Grammar{Terms: numbered("t", terms), Nons: numbered("n", nons), Start: start, Prods: prods}
}

// readOf is the grammar of a text.
func readOf(t testing.TB, text string) api.Grammar {
	t.Helper()
	g, e, at := notation.Parse(text)
	if e != api.OK {
		t.Fatal(text, e, at)
	}
	return g
}

func must[T any](x T, e api.Errno) T {
	if e != api.OK {
		panic(e)
	}
	return x
}

// symbolsOf are all symbols of a grammar, terminals ahead, rising.
func symbolsOf(g api.Grammar) []api.Sym {
	var l []api.Sym
	for n := range g.Terms {
		l = append(l, term(n))
	}
	for n := range g.Nons {
		l = append(l, non(n))
	}
	return l
}

// tokens is a text of these kinds, each token with a payload of its own.
func tokens(kinds ...int) []api.Token {
	var w []api.Token
	for at, k := range kinds {
		w = append(w, api.Token{Kind: k, Text: "at " + strconv.Itoa(at)})
	}
	return w
}

// kinds are those of a tree's leaves.
func kinds(t api.Tree) []int {
	var l []int
	for _, tok := range trees.Yield(t) {
		l = append(l, tok.Kind)
	}
	return l
}

func isZero(t api.Tree) bool { return t.Prod == 0 && t.Tok == (api.Token{}) && len(t.Kids) == 0 }

func pick[T any](r *rand.Rand, l []T) T { return l[r.Intn(len(l))] }

// anyGrammar has at most so many of each, and no production twice.
func anyGrammar(r *rand.Rand, terms, nons, prods, right int) api.Grammar {
	g := grammarOf(1+r.Intn(terms), 1+r.Intn(nons), 0)
	g.Start = r.Intn(len(g.Nons))
	for range 1 + r.Intn(prods) {
		p := prod(r.Intn(len(g.Nons)))
		for range r.Intn(right + 1) {
			p.Right = append(p.Right, pick(r, symbolsOf(g)))
		}
		if !slices.ContainsFunc(g.Prods, func(q api.Prod) bool { return q.Left == p.Left && slices.Equal(q.Right, p.Right) }) {
			g.Prods = append(g.Prods, p)
		}
	}
	return g
}

// anyFlat is such a grammar without circular nonterminals.
func anyFlat(r *rand.Rand, terms, nons, prods, right int) api.Grammar {
	for {
		g := anyGrammar(r, terms, nons, prods, right)
		if l := must(trim.Circular(g)); len(l) == 0 {
			return g
		}
	}
}

// anyTree is a tree of a symbol, of at most so many nodes in height, or none; each leaf has a payload of its own.
func anyTree(r *rand.Rand, g api.Grammar, s api.Sym, height int) (api.Tree, bool) {
	if s.Kind == api.SymTerm {
		return leaf(s.N, strconv.Itoa(r.Int())), true
	}
	if height == 0 {
		return api.Tree{}, false
	}
	rules := grammar.Rules(g, s.N)
	for _, at := range r.Perm(len(rules)) {
		t, ok := api.Tree{Prod: rules[at]}, true
		for _, x := range g.Prods[rules[at]].Right {
			kid, made := anyTree(r, g, x, height-1)
			if ok = ok && made; !ok {
				break
			}
			t.Kids = append(t.Kids, kid)
		}
		if ok {
			return t, true
		}
	}
	return api.Tree{}, false
}

// eachSmall goes over every grammar of at most two terminals, two nonterminals and three short productions.
func eachSmall(do func(api.Grammar)) {
	for terms := 1; terms <= 2; terms++ {
		for nons := 1; nons <= 2; nons++ {
			var all []api.Prod
			for left := range nons {
				all = append(all, prod(left))
				for _, a := range symbolsOf(grammarOf(terms, nons, 0)) {
					all = append(all, prod(left, a))
					for _, b := range symbolsOf(grammarOf(terms, nons, 0)) {
						all = append(all, prod(left, a, b))
					}
				}
			}
			for i := range all {
				do(grammarOf(terms, nons, 0, all[i]))
				for j := range i {
					do(grammarOf(terms, nons, 0, all[j], all[i]))
					for k := range j {
						do(grammarOf(terms, nons, 0, all[k], all[j], all[i]))
					}
				}
			}
		}
	}
}

// step is what an edge is known by.
type step struct {
	from int
	sym  api.Sym
}

// model is a grammar, its automaton's edges, and the words that were tried, by lengths.
type model struct {
	grammar api.Grammar
	steps   map[step]int
	tried   [][]trial
}

// trial is a word, its first trees, and the moves that build them.
type trial struct {
	word  []int
	trees []api.Tree
	moves [][]example.Move
}

func modelOf(g api.Grammar) *model {
	m := &model{grammar: g, steps: map[step]int{}}
	for _, e := range must(lrzero.Build(g)).Edges {
		m.steps[step{e.From, e.Sym}] = e.To
	}
	return m
}

// moves goes down a tree.
func (m *model) moves(t api.Tree) []example.Move {
	var l []example.Move
	states, shifted := []int{0}, 0
	top := func() int { return states[len(states)-1] }
	var build func(t api.Tree)
	build = func(t api.Tree) {
		if t.Prod == -1 {
			to := m.steps[step{top(), term(t.Tok.Kind)}]
			l = append(l, example.Move{State: top(), At: shifted, Act: shift(to)})
			states = append(states, to)
			shifted++
			return
		}
		for _, kid := range t.Kids {
			build(kid)
		}
		l = append(l, example.Move{State: top(), At: shifted, Act: reduce(t.Prod)})
		states = states[:len(states)-len(t.Kids)]
		states = append(states, m.steps[step{top(), non(m.grammar.Prods[t.Prod].Left)}])
	}
	build(t)
	return append(l, example.Move{State: top(), At: shifted, Act: accept()})
}

// modelFollow asks of each move where all that lies on the stack leads to, and the edges and items that are there.
func modelFollow(a api.Automaton, g api.Grammar, moves []example.Move, toks []api.Token) (api.Tree, api.Errno, int) {
	var lies []api.Sym
	var built []api.Tree
	shifted := 0
	for at, m := range moves {
		state, _ := lrzero.Walk(a, 0, lies)
		ends := func(prod, dot int) bool {
			return slices.ContainsFunc(a.States[state], func(i api.Item) bool { return i.Prod == prod && i.Dot == dot })
		}
		accepted := at > 0 && moves[at-1].Act.Kind == api.ActAccept
		if accepted || m.State != state || m.At != shifted {
			return api.Tree{}, api.ErrStep, at
		}
		switch m.Act.Kind {
		case api.ActShift:
			edge := slices.IndexFunc(a.Edges, func(e api.Edge) bool {
				return e.From == state && e.To == m.Act.Arg && e.Sym.Kind == api.SymTerm
			})
			if edge < 0 {
				return api.Tree{}, api.ErrStep, at
			}
			if shifted >= len(toks) || toks[shifted].Kind != a.Edges[edge].Sym.N {
				return api.Tree{}, api.ErrLeaf, at
			}
			lies = append(lies, a.Edges[edge].Sym)
			built = append(built, api.Tree{Prod: -1, Tok: toks[shifted]})
			shifted++
		case api.ActReduce:
			if m.Act.Arg < 0 || m.Act.Arg >= len(g.Prods) || !ends(m.Act.Arg, len(g.Prods[m.Act.Arg].Right)) {
				return api.Tree{}, api.ErrStep, at
			}
			below := len(lies) - len(g.Prods[m.Act.Arg].Right)
			kids := slices.Clone(built[below:])
			lies = append(lies[:below:below], non(g.Prods[m.Act.Arg].Left))
			built = append(built[:below:below], node(m.Act.Arg, kids...))
		case api.ActAccept:
			if m.Act.Arg != 0 || !ends(-1, 1) {
				return api.Tree{}, api.ErrStep, at
			}
		default:
			return api.Tree{}, api.ErrStep, at
		}
	}
	switch {
	case len(moves) == 0 || moves[len(moves)-1].Act.Kind != api.ActAccept:
		return api.Tree{}, api.ErrShort, len(moves)
	case shifted < len(toks):
		return api.Tree{}, api.ErrCount, len(moves)
	}
	return built[0], api.OK, 0
}

// ofLength is all words of a length, in their order, each with its first MaxTrees trees.
func (m *model) ofLength(length int) []trial {
	for n := len(m.tried); n <= length; n++ {
		var l []trial
		for _, w := range must(sentence.Words(m.grammar, m.grammar.Start, n, api.MaxTrees)) {
			one := trial{word: w, trees: must(sentence.Trees(m.grammar, m.grammar.Start, w, api.MaxTrees))}
			for _, t := range one.trees {
				one.moves = append(one.moves, m.moves(t))
			}
			l = append(l, one)
		}
		m.tried = append(m.tried, l)
	}
	return m.tried[length]
}

// proof tries word by word and tree by tree.
func (m *model) proof(c api.Conflict, act api.Action, length int) (example.Proof, bool) {
	for n := range length + 1 {
		for _, x := range m.ofLength(n) {
			looks := append(slices.Clone(x.word), len(m.grammar.Terms))
			for at, t := range x.trees {
				move := slices.IndexFunc(x.moves[at], func(y example.Move) bool {
					return y.State == c.State && y.Act == act && looks[y.At] == c.Look
				})
				if move >= 0 {
					return example.Proof{Act: act, Word: x.word, Tree: t, Move: move}, true
				}
			}
		}
	}
	return example.Proof{}, false
}

// modelThings are those of a conflict.
func modelThings(c api.Conflict) []api.Action {
	var l []api.Action
	if c.Shift >= 0 {
		l = append(l, shift(c.Shift))
	}
	if slices.Contains(c.Reduce, -1) {
		l = append(l, accept())
	}
	for _, p := range c.Reduce {
		if p >= 0 {
			l = append(l, reduce(p))
		}
	}
	return l
}

// proofs tries each thing for itself; found tells which have a proof.
func (m *model) proofs(c api.Conflict, length int) (l []example.Proof, found []bool) {
	for _, act := range modelThings(c) {
		p, ok := m.proof(c, act, length)
		l, found = append(l, p), append(found, ok)
	}
	return l, found
}

func (m *model) explain(c api.Conflict, length int) ([]example.Proof, api.Errno) {
	l, found := m.proofs(c, length)
	if slices.Contains(found, false) {
		return nil, api.ErrSearch
	}
	return l, api.OK
}

func (m *model) ambiguous(length int) ([]int, []api.Tree, api.Errno) {
	for n := range length + 1 {
		for _, x := range m.ofLength(n) {
			if len(x.trees) > 1 {
				return x.word, x.trees[:2], api.OK
			}
		}
	}
	return nil, nil, api.ErrNone
}

// crowded is the first word that has more than MaxTrees trees, or none.
func (m *model) crowded(length int) []int {
	for n := range length + 1 {
		for _, x := range m.ofLength(n) {
			if len(x.trees) == api.MaxTrees && must(sentence.Count(m.grammar, m.grammar.Start, x.word)) > api.MaxTrees {
				return x.word
			}
		}
	}
	return nil
}

// compareWords is the order of words: by length, then as lists.
func compareWords(v, w []int) int {
	return cmp.Or(cmp.Compare(len(v), len(w)), slices.Compare(v, w))
}

func sameProof(a, b example.Proof) bool {
	return a.Act == b.Act && a.Move == b.Move && slices.Equal(a.Word, b.Word) && trees.Same(a.Tree, b.Tree)
}

// conflictsOf are those of the grammar's automaton with lookaheads.
func conflictsOf(g api.Grammar) []api.Conflict {
	return must(table.Conflicts(g, must(lookahead.Attach(g))))
}
