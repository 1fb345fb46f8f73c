package trees_test

import (
	"math/rand"
	"slices"
	"strconv"

	"gantry/api"
	"gantry/codec"
)

func term(n int) api.Sym { return api.Sym{Kind: api.SymTerm, N: n} }
func non(n int) api.Sym  { return api.Sym{Kind: api.SymNon, N: n} }

func prod(left int, right ...api.Sym) api.Prod {
	return api.Prod{Left: left, Right: right, Prec: -1}
}

// numbered are that many names: the letter, and the numbers from 0 on behind it.
func numbered(letter string, n int) []string {
	var l []string
	for i := range n {
		l = append(l, letter+strconv.Itoa(i))
	}
	return l
}

func grammarOf(terms, nons, start int, prods ...api.Prod) api.Grammar {
	return api.Grammar{Terms: numbered("t", terms), Nons: numbered("n", nons), Start: start, Prods: prods}
}

func leaf(kind int) api.Tree { return api.Tree{Prod: -1, Tok: api.Token{Kind: kind}} }

func node(prod int, kids ...api.Tree) api.Tree { return api.Tree{Prod: prod, Kids: kids} }

// place is a part of a tree, and where it hangs.
type place struct {
	tree   api.Tree
	parent api.Tree
	kid    int
}

// placesOf are the places in preorder.
func placesOf(t api.Tree) []place {
	l := []place{{tree: t}}
	for i, kid := range t.Kids {
		below := placesOf(kid)
		below[0].parent, below[0].kid = t, i
		l = append(l, below...)
	}
	return l
}

// modelCheck asks place by place, as the chapter says it.
func modelCheck(g api.Grammar, t api.Tree) (api.Errno, int) {
	for i, p := range placesOf(t) {
		if e := modelOwn(g, p.tree); e != api.OK {
			return e, i
		}
		if i == 0 {
			continue
		}
		s := g.Prods[p.parent.Prod].Right[p.kid]
		if is, _ := modelRoot(g, p.tree); is != s {
			if s.Kind == api.SymTerm || p.tree.Prod == -1 {
				return api.ErrLeaf, i
			}
			return api.ErrTree, i
		}
	}
	return api.OK, len(placesOf(t))
}

func modelOwn(g api.Grammar, t api.Tree) api.Errno {
	if _, e := modelRoot(g, t); e != api.OK {
		return e
	}
	if t.Prod == -1 && len(t.Kids) > 0 {
		return api.ErrLeaf
	}
	if t.Prod != -1 && (t.Tok.Kind != 0 || t.Tok.Text != "" || len(t.Kids) != len(g.Prods[t.Prod].Right)) {
		return api.ErrTree
	}
	return api.OK
}

func modelRoot(g api.Grammar, t api.Tree) (api.Sym, api.Errno) {
	if t.Prod == -1 {
		if t.Tok.Kind < 0 || t.Tok.Kind >= len(g.Terms) {
			return api.Sym{}, api.ErrLeaf
		}
		return term(t.Tok.Kind), api.OK
	}
	if t.Prod < 0 || t.Prod >= len(g.Prods) {
		return api.Sym{}, api.ErrTree
	}
	return non(g.Prods[t.Prod].Left), api.OK
}

func modelYield(t api.Tree) []api.Token {
	var w []api.Token
	for _, p := range placesOf(t) {
		if p.tree.Prod == -1 {
			w = append(w, p.tree.Tok)
		}
	}
	return w
}

func modelHeight(t api.Tree) int {
	if t.Prod == -1 {
		return 0
	}
	highest := 0
	for _, kid := range t.Kids {
		highest = max(highest, modelHeight(kid))
	}
	return highest + 1
}

func modelSame(a, b api.Tree) bool {
	return a.Prod == b.Prod && a.Tok == b.Tok && slices.EqualFunc(a.Kids, b.Kids, modelSame)
}

// modelGraft counts down to the place.
func modelGraft(t api.Tree, at int, s api.Tree) api.Tree {
	if at == 0 {
		return s
	}
	at--
	t.Kids = slices.Clone(t.Kids)
	for i, kid := range t.Kids {
		n := len(placesOf(kid))
		if at < n {
			t.Kids[i] = modelGraft(kid, at, s)
			break
		}
		at -= n
	}
	return t
}

func modelLeft(t api.Tree) []int {
	var l []int
	for _, p := range placesOf(t) {
		if p.tree.Prod != -1 {
			l = append(l, p.tree.Prod)
		}
	}
	return l
}

func modelRight(t api.Tree) []int {
	var l []int
	for _, kid := range t.Kids {
		l = append(l, modelRight(kid)...)
	}
	if t.Prod != -1 {
		l = append(l, t.Prod)
	}
	return l
}

// modelListed is what both ways back from a derivation ask of the list alone.
func modelListed(g api.Grammar, l []int) (api.Errno, int) {
	for i, n := range l {
		if n < 0 || n >= len(g.Prods) {
			return api.ErrRange, i
		}
	}
	if len(l) == 0 {
		return api.ErrArg, 0
	}
	return api.OK, 0
}

// modelFault goes through a leftmost derivation with a list of the symbols that are still to come.
func modelFault(g api.Grammar, l []int, w []api.Token) (api.Errno, int) {
	if e, at := modelListed(g, l); e != api.OK {
		return e, at
	}
	used, read := 0, 0
	for due := []api.Sym{non(g.Prods[l[0]].Left)}; len(due) > 0; {
		s := due[0]
		if s.Kind == api.SymTerm {
			if read == len(w) || s.N != w[read].Kind {
				return api.ErrLeaf, read
			}
			read++
			due = due[1:]
			continue
		}
		if used == len(l) {
			return api.ErrShort, len(l)
		}
		p := g.Prods[l[used]]
		if p.Left != s.N {
			return api.ErrTree, used
		}
		used++
		due = slices.Concat(p.Right, due[1:])
	}
	if used < len(l) {
		return api.ErrTree, used
	}
	if read < len(w) {
		return api.ErrTail, read
	}
	return api.OK, 0
}

// modelBody is the body of a tree's frame, or why there is none.
func modelBody(t api.Tree) ([]byte, api.Errno) {
	w := codec.NewWriter()
	for _, p := range placesOf(t) {
		t := p.tree
		if t.Prod == -1 {
			if t.Tok.Kind > 1<<62 || t.Tok.Kind < -1<<62 {
				return nil, api.ErrRange
			}
			if len(t.Kids) > 0 {
				return nil, api.ErrLeaf
			}
			w.Int(0)
			w.Signed(t.Tok.Kind)
			w.Text(t.Tok.Text)
			continue
		}
		if t.Prod < -1 || t.Prod > 1<<30 || t.Tok.Kind != 0 || t.Tok.Text != "" {
			return nil, api.ErrRange
		}
		w.Int(t.Prod + 1)
		w.Int(len(t.Kids))
	}
	return w.Bytes()
}

// modelRead reads a tree by going down; it stops at the first error.
func modelRead(r *codec.Reader) api.Tree {
	t := api.Tree{Prod: r.Int(1<<30+1) - 1}
	if t.Prod == -1 {
		t.Tok.Kind = r.Signed(1 << 62)
		t.Tok.Text = r.Text(api.MaxBytes)
		return t
	}
	for range r.Count(1, 1<<30) {
		before := r.At()
		kid := modelRead(r)
		if r.At() == before {
			break
		}
		t.Kids = append(t.Kids, kid)
	}
	return t
}

// modelDecode is what Decode answers of the frame of a body that begins at a place.
func modelDecode(body []byte, begin int) (api.Tree, api.Errno, int) {
	r := codec.NewReader(body)
	t := modelRead(r)
	if e, at := r.End(); e != api.OK {
		return api.Tree{}, e, begin + at
	}
	return t, api.OK, 0
}

func modelPrint(g api.Grammar, t api.Tree) string {
	if t.Prod == -1 {
		return g.Terms[t.Tok.Kind]
	}
	text := "(" + g.Nons[g.Prods[t.Prod].Left]
	for _, kid := range t.Kids {
		text += " " + modelPrint(g, kid)
	}
	return text + ")"
}

// treesWith are all trees of a symbol with just so many nodes.
func treesWith(g api.Grammar, s api.Sym, nodes int) []api.Tree {
	if s.Kind == api.SymTerm {
		if nodes == 0 {
			return []api.Tree{leaf(s.N)}
		}
		return nil
	}
	var all []api.Tree
	for i, p := range g.Prods {
		if p.Left == s.N && nodes > 0 {
			for _, kids := range rowsWith(g, p.Right, nodes-1) {
				all = append(all, node(i, kids...))
			}
		}
	}
	return all
}

// rowsWith are all rows of trees of the symbols with so many nodes in all.
func rowsWith(g api.Grammar, l []api.Sym, nodes int) [][]api.Tree {
	if len(l) == 0 {
		if nodes == 0 {
			return [][]api.Tree{nil}
		}
		return nil
	}
	var all [][]api.Tree
	for n := range nodes + 1 {
		firsts := treesWith(g, l[0], n)
		if len(firsts) == 0 {
			continue
		}
		for _, rest := range rowsWith(g, l[1:], nodes-n) {
			for _, first := range firsts {
				all = append(all, slices.Concat([]api.Tree{first}, rest))
			}
		}
	}
	return all
}

// smallGrammars have a right recursion; empty sides; ambiguity; cycles; two nonterminals one in the other.
func smallGrammars() []api.Grammar {
	return []api.Grammar{
		grammarOf(2, 1, 0, prod(0, term(0), non(0)), prod(0, term(1))),
		grammarOf(2, 2, 0, prod(0, non(1), term(1), non(1)), prod(1), prod(1, term(0), non(1)), prod(0, non(0), non(1))),
		grammarOf(2, 1, 0, prod(0, non(0), non(0)), prod(0, term(0)), prod(0)),
		grammarOf(1, 2, 1, prod(0, non(1)), prod(1, non(0)), prod(1, non(1)), prod(1, term(0))),
		grammarOf(2, 2, 0, prod(0, term(0), non(1), term(0)), prod(1, non(0), non(0)), prod(1, term(1)), prod(0, term(1))),
	}
}

// shapes are all trees of just so many places, nothing in them.
func shapes(places int) []api.Tree {
	var all []api.Tree
	for _, kids := range rows(places - 1) {
		all = append(all, node(0, kids...))
	}
	return all
}

func rows(places int) [][]api.Tree {
	if places == 0 {
		return [][]api.Tree{nil}
	}
	var all [][]api.Tree
	for n := 1; n <= places; n++ {
		for _, rest := range rows(places - n) {
			for _, first := range shapes(n) {
				all = append(all, slices.Concat([]api.Tree{first}, rest))
			}
		}
	}
	return all
}

// eachFilled fills the places of a shape in every way, with what stands in the list.
func eachFilled(shape api.Tree, fillings []api.Tree, do func(api.Tree)) {
	places := len(placesOf(shape))
	turns := 1
	for range places {
		turns *= len(fillings)
	}
	for turn := range turns {
		do(filled(shape, func() api.Tree {
			f := fillings[turn%len(fillings)]
			turn /= len(fillings)
			return f
		}))
	}
}

// filled is a tree of the shape in new memory; the next filling goes into each place.
func filled(shape api.Tree, next func() api.Tree) api.Tree {
	t := next()
	t.Kids = nil
	for _, kid := range shape.Kids {
		t.Kids = append(t.Kids, filled(kid, next))
	}
	return t
}

// cloned is the tree in new memory.
func cloned(t api.Tree) api.Tree {
	t.Kids = slices.Clone(t.Kids)
	for i, kid := range t.Kids {
		t.Kids[i] = cloned(kid)
	}
	return t
}

// anyShape is a tree of at most so many places.
func anyShape(r *rand.Rand, most int) api.Tree {
	left := r.Intn(most)
	var grow func() api.Tree
	grow = func() api.Tree {
		var t api.Tree
		for left > 0 && r.Intn(3) > 0 {
			left--
			t.Kids = append(t.Kids, grow())
		}
		return t
	}
	return grow()
}

// anyTree is a tree of no grammar: all that may stand in a place stands somewhere.
func anyTree(r *rand.Rand, most int) api.Tree {
	l := strangeFillings()
	return filled(anyShape(r, most), func() api.Tree { return l[r.Intn(len(l))] })
}

// strangeFillings are places of every kind.
func strangeFillings() []api.Tree {
	var l []api.Tree
	for _, p := range []int{-2, -1, 0, 1, 2, 3, 4} {
		for _, tok := range []api.Token{{}, {Text: "x"}, {Kind: 1}, {Kind: 2}, {Kind: -1, Text: "y"}} {
			l = append(l, api.Tree{Prod: p, Tok: tok})
		}
	}
	return l
}

// anySyms are symbols of a grammar, nonterminals more often.
func anySyms(r *rand.Rand, g api.Grammar, most int) []api.Sym {
	var l []api.Sym
	for range r.Intn(most + 1) {
		if n := r.Intn(len(g.Terms) + 2*len(g.Nons)); n < len(g.Terms) {
			l = append(l, term(n))
		} else {
			l = append(l, non(r.Intn(len(g.Nons))))
		}
	}
	return l
}

// anyGrammar has at most so many of each, and no production twice.
func anyGrammar(r *rand.Rand, terms, nons, prods, right int) api.Grammar {
	g := grammarOf(1+r.Intn(terms), 1+r.Intn(nons), 0)
	g.Start = r.Intn(len(g.Nons))
	for range 1 + r.Intn(prods) {
		p := prod(r.Intn(len(g.Nons)), anySyms(r, g, right)...)
		if !slices.ContainsFunc(g.Prods, func(q api.Prod) bool { return q.Left == p.Left && slices.Equal(q.Right, p.Right) }) {
			g.Prods = append(g.Prods, p)
		}
	}
	return g
}

// anyTrees makes trees of a grammar, of all roots, texts in their leaves: each round over those of the rounds ahead.
func anyTrees(r *rand.Rand, g api.Grammar, rounds int) []api.Tree {
	pool := make([][]api.Tree, len(g.Nons))
	for range rounds {
		next := make([][]api.Tree, len(g.Nons))
		for i, p := range g.Prods {
			t := node(i)
			for _, s := range p.Right {
				if s.Kind == api.SymTerm {
					t.Kids = append(t.Kids, api.Tree{Prod: -1, Tok: api.Token{Kind: s.N, Text: strconv.Itoa(r.Intn(4))}})
				} else if trees := pool[s.N]; len(trees) > 0 {
					t.Kids = append(t.Kids, trees[r.Intn(len(trees))])
				}
			}
			if len(t.Kids) == len(p.Right) && len(placesOf(t)) < 300 {
				next[p.Left] = append(next[p.Left], t)
			}
		}
		for n := range pool {
			pool[n] = append(pool[n], next[n]...)
		}
	}
	return slices.Concat(pool...)
}
