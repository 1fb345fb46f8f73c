package trees

import (
	"slices"

	"gantry/api"
	"gantry/grammar"
)

// node is one whose kids are not all there yet: those that are stand among the builder's, from first on.
type node struct {
	prod  int
	kids  int
	first int
}

// builder makes a tree of its places in preorder. Kids wait in one list till all of their node are there, so that no more memory is asked for than places have come, whatever a node says that it has.
type builder struct {
	open []node
	done []api.Tree
}

func (b *builder) leaf(tok api.Token) {
	b.done = append(b.done, api.Tree{Prod: -1, Tok: tok})
	b.close()
}

func (b *builder) node(prod, kids int) {
	b.open = append(b.open, node{prod: prod, kids: kids, first: len(b.done)})
	b.close()
}

// close makes trees of the open nodes that have all of their kids.
func (b *builder) close() {
	for len(b.open) > 0 && b.kids() == b.last().kids {
		last := b.last()
		whole := api.Tree{Prod: last.prod}
		if last.kids > 0 {
			whole.Kids = slices.Clone(b.done[last.first:])
		}
		b.open = b.open[:len(b.open)-1]
		b.done = append(b.done[:last.first], whole)
	}
}

func (b *builder) last() node { return b.open[len(b.open)-1] }

// kids is how many kids of the last open node are there.
func (b *builder) kids() int { return len(b.done) - b.last().first }

// whole tells whether the tree has all of its places.
func (b *builder) whole() bool { return len(b.open) == 0 && len(b.done) > 0 }

func (b *builder) tree() api.Tree { return b.done[0] }

// checkProds is the first fault of a grammar and a list of productions, and its place in the list.
func checkProds(g api.Grammar, l []int) (api.Errno, int) {
	if e, _ := grammar.Check(g); e != api.OK {
		return e, 0
	}
	for i, n := range l {
		if !isProd(g, n) {
			return api.ErrRange, i
		}
	}
	if len(l) == 0 {
		return api.ErrArg, 0
	}
	return api.OK, 0
}

// derivation is a leftmost one that is gone through, and how far it has come in its productions and words.
type derivation struct {
	grammar api.Grammar
	prods   []int
	words   []api.Token
	used    int
	read    int
	made    builder
}

// derive is FromLeft of productions that there are.
func derive(g api.Grammar, l []int, w []api.Token) (api.Tree, api.Errno, int) {
	d := derivation{grammar: g, prods: l, words: w}
	for !d.made.whole() {
		if e, at := d.step(); e != api.OK {
			return api.Tree{}, e, at
		}
	}
	switch {
	case d.used < len(l):
		return api.Tree{}, api.ErrTree, d.used
	case d.read < len(w):
		return api.Tree{}, api.ErrTail, d.read
	}
	return d.made.tree(), api.OK, 0
}

// step puts in what comes for the symbol that is next.
func (d *derivation) step() (api.Errno, int) {
	s := d.next()
	if s.Kind == api.SymTerm {
		return d.takeWord(s.N)
	}
	return d.takeProd(s.N)
}

func (d *derivation) next() api.Sym {
	if len(d.made.open) == 0 {
		return non(d.grammar.Prods[d.prods[0]].Left)
	}
	return d.grammar.Prods[d.made.last().prod].Right[d.made.kids()]
}

func (d *derivation) takeWord(kind int) (api.Errno, int) {
	if d.read == len(d.words) || d.words[d.read].Kind != kind {
		return api.ErrLeaf, d.read
	}
	d.made.leaf(d.words[d.read])
	d.read++
	return api.OK, 0
}

func (d *derivation) takeProd(left int) (api.Errno, int) {
	if d.used == len(d.prods) {
		return api.ErrShort, d.used
	}
	n := d.prods[d.used]
	if d.grammar.Prods[n].Left != left {
		return api.ErrTree, d.used
	}
	d.made.node(n, len(d.grammar.Prods[n].Right))
	d.used++
	return api.OK, 0
}

// deriveMirrored is FromRight of productions that there are: a rightmost derivation is, seen in a mirror, a leftmost one.
func deriveMirrored(g api.Grammar, l []int, w []api.Token) (api.Tree, api.Errno, int) {
	mirror, e := grammar.Reverse(g)
	if e != api.OK {
		return api.Tree{}, e, 0
	}
	t, e, _ := derive(mirror, turned(l), turned(w))
	if e != api.OK {
		return api.Tree{}, api.ErrTree, 0
	}
	walk(&t, func(at *api.Tree) bool {
		slices.Reverse(at.Kids)
		return true
	})
	return t, api.OK, 0
}

func turned[T any](l []T) []T {
	l = slices.Clone(l)
	slices.Reverse(l)
	return l
}
