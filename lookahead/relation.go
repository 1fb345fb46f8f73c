package lookahead

import (
	"slices"

	"gantry/api"
	"gantry/bits"
)

// startProd is the number of start's own production.
const startProd = -1

// relation tells all that it relates, in any order, and some of it more than once.
type relation func(relate func(x, y int))

// end is a production whose dot stands behind its end in a state.
type end struct {
	state int
	prod  int
}

func (b *builder) endMarker() int { return len(b.grammar.Terms) }

// direct is the terminals that may be read behind each transition at once. They rise, since a state's edges do, and the end marker is above them.
func (b *builder) direct() [][]int {
	lists := make([][]int, len(b.transitions))
	for x, t := range b.transitions {
		for _, edge := range b.fans[t.To] {
			if edge.Sym.Kind == api.SymTerm {
				lists[x] = append(lists[x], edge.Sym.N)
			}
		}
		if t.From == 0 && t.Sym.N == b.grammar.Start {
			lists[x] = append(lists[x], b.endMarker())
		}
	}
	return lists
}

// reads relates a transition to those behind it that may be over nothing.
func (b *builder) reads(relate func(x, y int)) {
	for x, t := range b.transitions {
		for _, edge := range b.fans[t.To] {
			if edge.Sym.Kind == api.SymNon && b.nullable[edge.Sym.N] {
				relate(x, b.numbers[step{edge.From, edge.Sym}])
			}
		}
	}
}

// includes relates a transition to those over a left side whose production may end with it.
func (b *builder) includes(relate func(x, y int)) {
	b.eachWay(func(y, prod int, way []int) {
		for at, s := range slices.Backward(b.grammar.Prods[prod].Right) {
			if s.Kind != api.SymNon {
				return
			}
			relate(b.numbers[step{way[at], s}], y)
			if !b.nullable[s.N] {
				return
			}
		}
	})
}

// lookbacks is the transitions ahead of which each production that ends somewhere may have begun, rising.
func (b *builder) lookbacks() map[end][]int {
	all := make(map[end][]int)
	b.eachWay(func(x, prod int, way []int) {
		at := end{way[len(way)-1], prod}
		all[at] = append(all[at], x)
	})
	return all
}

// pairs is what a relation relates, rising, each once.
func (b *builder) pairs(r relation) []api.Pair {
	rows := make([]*bits.Set, len(b.transitions))
	for x := range rows {
		rows[x], _ = bits.NewSet(len(b.transitions))
	}
	count := 0
	r(func(x, y int) {
		if rows[x].Add(y) {
			count++
		}
	})
	l := make([]api.Pair, 0, count)
	for x, row := range rows {
		for _, y := range row.List() {
			l = append(l, api.Pair{A: x, B: y})
		}
	}
	return l
}

// digraph is what each transition has, or one that it reaches by a relation.
func (b *builder) digraph(lists [][]int, r relation) [][]int {
	all, _ := bits.Digraph(len(b.transitions), b.endMarker()+1, lists, b.pairs(r))
	return all
}

// follow is the digraph of what is read over includes; what is read is the digraph of what is read directly over reads.
func (b *builder) follow() [][]int {
	read := b.digraph(b.direct(), b.reads)
	return b.digraph(read, b.includes)
}

// attach puts lookaheads to the items of the automaton whose dots stand at the end.
func (b *builder) attach() api.Automaton {
	follow, lookbacks := b.follow(), b.lookbacks()
	for n, state := range b.automaton.States {
		for at, i := range state {
			switch {
			case !b.isComplete(i):
			case i.Prod == startProd:
				state[at].Look = []int{b.endMarker()}
			default:
				state[at].Look = b.union(follow, lookbacks[end{n, i.Prod}])
			}
		}
	}
	return b.automaton
}

func (b *builder) isComplete(i api.Item) bool {
	if i.Prod == startProd {
		return i.Dot == 1
	}
	return i.Dot == len(b.grammar.Prods[i.Prod].Right)
}

// union is what the lists of some transitions have, rising.
func (b *builder) union(lists [][]int, transitions []int) []int {
	all, _ := bits.NewSet(b.endMarker() + 1)
	for _, x := range transitions {
		for _, look := range lists[x] {
			all.Add(look)
		}
	}
	return all.List()
}
