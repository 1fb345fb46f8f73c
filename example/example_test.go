package example_test

import (
	"slices"
	"testing"

	"gantry/api"
	"gantry/example"
	"gantry/lrzero"
	"gantry/trees"
)

// nest is S → ( S ), S → x: ( is 0, ) is 1, x is 2. Its states: 1 behind (, 2 behind x, 3 behind S, 4 behind ( S, 5 behind ( S ).
func nest() api.Grammar {
	return grammarOf(3, 1, 0, prod(0, term(0), non(0), term(1)), prod(0, term(2)))
}

// sums is E → E + E, E → n: + is 0, n is 1. Its states: 1 behind n, 2 behind E, 3 behind E +, 4 behind E + E.
func sums() api.Grammar {
	return grammarOf(2, 1, 0, prod(0, non(0), term(0), non(0)), prod(0, term(1)))
}

// hollow is S → A S b, S → nothing, A → nothing.
func hollow() api.Grammar {
	return grammarOf(1, 2, 0, prod(0, non(1), non(0), term(0)), prod(0), prod(1))
}

func bracketed() api.Tree {
	return node(0, leaf(0, "["), node(1, leaf(2, "y")), leaf(1, "]"))
}

func move(state, at int, act api.Action) example.Move {
	return example.Move{State: state, At: at, Act: act}
}

// bracketMoves are those that build ( x ).
func bracketMoves() []example.Move {
	return []example.Move{
		move(0, 0, shift(1)), move(1, 1, shift(2)), move(2, 2, reduce(1)), move(4, 2, shift(5)), move(5, 3, reduce(0)), move(3, 3, accept()),
	}
}

// P21.1: leaves are shifted, nodes are reduced as soon as their last kid is there, at last it is accepted.
func TestMoves(t *testing.T) {
	if l, e := example.Moves(nest(), bracketed()); e != api.OK || !slices.Equal(l, bracketMoves()) {
		t.Error(l, e)
	}
	n := node(1, leaf(1, ""))
	right := []example.Move{
		move(0, 0, shift(1)), move(1, 1, reduce(1)), move(2, 1, shift(3)), move(3, 2, shift(1)), move(1, 3, reduce(1)),
		move(4, 3, shift(3)), move(3, 4, shift(1)), move(1, 5, reduce(1)), move(4, 5, reduce(0)), move(4, 5, reduce(0)), move(2, 5, accept()),
	}
	if l, e := example.Moves(sums(), node(0, n, leaf(0, ""), node(0, n, leaf(0, ""), n))); e != api.OK || !slices.Equal(l, right) {
		t.Error(l, e)
	}
	// 1 behind S, 2 behind A, 3 behind A S, 4 behind A S b: nodes without kids are reduced where they stand.
	empty := []example.Move{
		move(0, 0, reduce(2)), move(2, 0, reduce(2)), move(2, 0, reduce(1)), move(3, 0, shift(4)), move(4, 1, reduce(0)), move(3, 1, shift(4)), move(4, 2, reduce(0)), move(1, 2, accept()),
	}
	once := node(0, node(2), node(1), leaf(0, ""))
	if l, e := example.Moves(hollow(), node(0, node(2), once, leaf(0, ""))); e != api.OK || !slices.Equal(l, empty) {
		t.Error(l, e)
	}
	if l, e := example.Moves(hollow(), node(1)); e != api.OK || !slices.Equal(l, []example.Move{move(0, 0, reduce(1)), move(1, 0, accept())}) {
		t.Error(l, e)
	}
}

// rowsOf has right sides of terminals alone, by which it has just so many states (from 3 on).
func rowsOf(states int) api.Grammar {
	g := grammarOf(64, 1, 0)
	for left := states - 2; left > 0; {
		n := len(g.Prods)
		known := 0
		if n >= 64 { // the first terminal stood ahead of another row
			known = 1
		}
		length := min(16, known+left)
		row := slices.Repeat([]api.Sym{term(n / 64)}, length)
		row[0] = term(n % 64)
		g.Prods = append(g.Prods, prod(0, row...))
		left -= length - known
	}
	return g
}

// rowTree is the tree of a row.
func rowTree(g api.Grammar, n int) api.Tree {
	t := node(n)
	for _, s := range g.Prods[n].Right {
		t.Kids = append(t.Kids, leaf(s.N, ""))
	}
	return t
}

// P21.1: which fault of Moves goes ahead.
func TestMovesFaults(t *testing.T) {
	broken := nest()
	broken.Start = 1
	two := grammarOf(2, 2, 0, prod(0, non(1)), prod(1, term(0)))
	loose := nest()
	loose.Terms[0] = ""
	more := rowsOf(api.MaxStates + 1)
	more.Nons = append(more.Nons, "more")
	more.Prods = append(more.Prods, prod(1, term(0)))
	for name, c := range map[string]struct {
		g    api.Grammar
		t    api.Tree
		want api.Errno
	}{
		"no grammar":                       {api.Grammar{}, bracketed(), api.ErrTerms},
		"a start that there is not":        {broken, leaf(9, ""), api.ErrStart},
		"a name":                           {loose, bracketed(), api.ErrName},
		"the zero tree":                    {nest(), api.Tree{}, api.ErrTree},
		"a kid too few":                    {nest(), node(0, leaf(0, ""), node(1, leaf(2, ""))), api.ErrTree},
		"another leaf":                     {nest(), node(1, leaf(1, "")), api.ErrLeaf},
		"a leaf that is none":              {nest(), leaf(3, ""), api.ErrLeaf},
		"a leaf as the root":               {nest(), leaf(2, ""), api.ErrTree},
		"another root":                     {two, node(1, leaf(0, "")), api.ErrTree},
		"another root, and broken below":   {two, node(1, leaf(1, "")), api.ErrLeaf},
		"too many states":                  {more, rowTree(more, 0), api.ErrStates},
		"too many states and another root": {more, rowTree(more, len(more.Prods)-1), api.ErrTree},
		"too many states and no tree":      {more, node(0), api.ErrTree},
	} {
		if l, e := example.Moves(c.g, c.t); e != c.want || len(l) != 0 {
			t.Error(name, l, e, "want", c.want)
		}
	}
	most := rowsOf(api.MaxStates)
	if l, e := example.Moves(most, rowTree(most, 3)); e != api.OK || len(l) != 18 {
		t.Error("as many states as there may be:", len(l), e)
	}
}

// P21.1: what moves build, payloads and all.
func TestFollow(t *testing.T) {
	toks := []api.Token{{Kind: 0, Text: "["}, {Kind: 2, Text: "y"}, {Kind: 1, Text: "]"}}
	if y, e, at := example.Follow(nest(), bracketMoves(), toks); e != api.OK || at != 0 || !trees.Same(y, bracketed()) {
		t.Error(y, e, at)
	}
	if y, e, at := example.Follow(hollow(), []example.Move{move(0, 0, reduce(1)), move(1, 0, accept())}, nil); e != api.OK || at != 0 || !trees.Same(y, node(1)) {
		t.Error(y, e, at)
	}
}

// heldOfFault asks for a fault, its place, and no tree beside it.
func heldOfFault(t *testing.T, name string, g api.Grammar, l []example.Move, toks []api.Token, want api.Errno, place int) {
	t.Helper()
	if y, e, at := example.Follow(g, l, toks); e != want || at != place || !isZero(y) {
		t.Error(name, y, e, at, "want", want, place)
	}
}

// P21.1: a move that may not be made, and its place.
func TestFollowSteps(t *testing.T) {
	toks := tokens(0, 2, 1)
	for _, c := range []struct {
		name string
		at   int
		made example.Move
		want api.Errno
	}{
		{"another state", 0, move(1, 0, shift(1)), api.ErrStep},
		{"a state that there is not", 0, move(-1, 0, shift(1)), api.ErrStep},
		{"another state at the end", 5, move(0, 3, accept()), api.ErrStep},
		{"another place", 1, move(1, 0, shift(2)), api.ErrStep},
		{"a place further on", 2, move(2, 3, reduce(1)), api.ErrStep},
		{"a place that there is not", 3, move(4, -1, shift(5)), api.ErrStep},
		{"a shift to where no edge leads", 0, move(0, 0, shift(5)), api.ErrStep},
		{"a shift to state 0", 0, move(0, 0, shift(0)), api.ErrStep},
		{"a shift over a nonterminal", 0, move(0, 0, shift(3)), api.ErrStep},
		{"a shift to no state", 0, move(0, 0, shift(6)), api.ErrStep},
		{"a shift to no state at all", 0, move(0, 0, shift(-1)), api.ErrStep},
		{"a reduction of another production", 2, move(2, 2, reduce(0)), api.ErrStep},
		{"a reduction of none", 2, move(2, 2, reduce(2)), api.ErrStep},
		{"a reduction of start's own", 5, move(3, 3, reduce(-1)), api.ErrStep},
		{"a reduction where none is", 0, move(0, 0, reduce(1)), api.ErrStep},
		{"an acceptance too early", 3, move(4, 2, accept()), api.ErrStep},
		{"an acceptance of something", 5, move(3, 3, api.Action{Kind: api.ActAccept, Arg: 1}), api.ErrStep},
		{"an error", 5, move(3, 3, api.Action{}), api.ErrStep},
		{"an action of no kind", 5, move(3, 3, api.Action{Kind: 4}), api.ErrStep},
		{"an action of no kind at all", 1, move(1, 1, api.Action{Kind: -1, Arg: 2}), api.ErrStep},
		{"a shift of another terminal", 0, move(0, 0, shift(2)), api.ErrLeaf},
		{"a shift of another terminal further on", 1, move(1, 1, shift(1)), api.ErrLeaf},
	} {
		l := bracketMoves()
		l[c.at] = c.made
		heldOfFault(t, c.name, nest(), l, toks, c.want, c.at)
	}
	l := bracketMoves()
	heldOfFault(t, "behind an acceptance", nest(), append(l, l[5]), toks, api.ErrStep, 6)
	heldOfFault(t, "behind an acceptance, tokens left", nest(), append(l, move(3, 3, shift(1))), tokens(0, 2, 1, 0), api.ErrStep, 6)
	heldOfFault(t, "the first counts", nest(), append([]example.Move{move(0, 0, shift(1)), move(1, 1, reduce(1))}, l[5]), toks, api.ErrStep, 1)
	heldOfFault(t, "a reduction too many", sums(), []example.Move{move(0, 0, shift(1)), move(1, 1, reduce(1)), move(2, 1, reduce(0))}, tokens(1), api.ErrStep, 2)
}

// P21.1: tokens that are not those, and ends that are none.
func TestFollowTokens(t *testing.T) {
	l := bracketMoves()
	for n, w := range [][]api.Token{nil, tokens(0), tokens(0, 2)} {
		heldOfFault(t, "behind the end", nest(), l, w, api.ErrLeaf, []int{0, 1, 3}[n])
	}
	heldOfFault(t, "another token", nest(), l, tokens(0, 0, 1), api.ErrLeaf, 1)
	heldOfFault(t, "a token that is none", nest(), l, tokens(0, 2, 3), api.ErrLeaf, 3)
	heldOfFault(t, "a token below all", nest(), l, tokens(-1, 2, 1), api.ErrLeaf, 0)
	heldOfFault(t, "a step goes ahead of a leaf", nest(), []example.Move{move(1, 0, shift(2))}, tokens(1), api.ErrStep, 0)
	heldOfFault(t, "a step goes ahead of the end", nest(), []example.Move{move(0, 0, shift(3))}, nil, api.ErrStep, 0)
	for n := range len(l) {
		heldOfFault(t, "no acceptance", nest(), l[:n], tokens(0, 2, 1), api.ErrShort, n)
	}
	heldOfFault(t, "no moves, no tokens", nest(), nil, nil, api.ErrShort, 0)
	heldOfFault(t, "no moves, many tokens", nest(), nil, tokens(5, 5), api.ErrShort, 0)
	heldOfFault(t, "no acceptance, tokens left", nest(), l[:5], tokens(0, 2, 1, 1), api.ErrShort, 5)
	heldOfFault(t, "tokens left", nest(), l, tokens(0, 2, 1, 1), api.ErrCount, 6)
	heldOfFault(t, "tokens left that are none", nest(), l, tokens(0, 2, 1, 7, 7), api.ErrCount, 6)
	broken := nest()
	broken.Start = -1
	heldOfFault(t, "no grammar", broken, []example.Move{move(9, 9, shift(9))}, nil, api.ErrStart, 0)
	heldOfFault(t, "the zero grammar", api.Grammar{}, nil, tokens(1), api.ErrTerms, 0)
	heldOfFault(t, "too many states", rowsOf(api.MaxStates+1), nil, nil, api.ErrStates, 0)
	heldOfFault(t, "as many states as may be", rowsOf(api.MaxStates), nil, nil, api.ErrShort, 0)
	if _, e := lrzero.Build(rowsOf(api.MaxStates)); e != api.OK {
		t.Error(e)
	}
}
