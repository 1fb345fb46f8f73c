package cert

import (
	"cmp"
	"slices"

	"gantry/api"
	"gantry/bits"
	"gantry/first"
)

const (
	startProd = -1 // start's own production
	noSet     = -1 // where a state has no productions of a nonterminal with the dot at the beginning
)

// step is what an edge is known by: the state that it leaves, and its symbol.
type step struct {
	from int
	sym  api.Sym
}

// rest is what symbols begin with, and whether they may be nothing.
type rest struct {
	begin    *bits.Set
	nullable bool
}

// closing is an automaton whose lookaheads are worked out. Productions of one nonterminal with the dot at the beginning have the same lookaheads in one state, since what brings the one brings the other: they have one set. Every other item has its own.
type closing struct {
	grammar   api.Grammar
	automaton api.Automaton
	targets   map[step]int // where each edge leads to
	rests     [][]rest     // by productions, start's own first, and dots: what stands from there on
	numbers   [][]int      // by states and places: which of the sets an item has
	fresh     [][]int      // by states and nonterminals: which of the sets its productions have
	sets      []*bits.Set
	links     [][]int // which sets have all that a set has
}

// closingOf asks an automaton that may be.
func closingOf(g api.Grammar, a api.Automaton) *closing {
	c := &closing{grammar: g, automaton: a, targets: make(map[step]int)}
	for _, edge := range a.Edges {
		c.targets[step{edge.From, edge.Sym}] = edge.To
	}
	c.rests = c.allRests()
	for _, state := range a.States {
		c.number(state)
	}
	c.links = make([][]int, len(c.sets))
	return c
}

func (c *closing) setOf(l []int) *bits.Set {
	s, _ := bits.NewSet(len(c.grammar.Terms) + 1)
	for _, n := range l {
		s.Add(n)
	}
	return s
}

func (c *closing) newSet() int {
	c.sets = append(c.sets, c.setOf(nil))
	return len(c.sets) - 1
}

func (c *closing) rightOf(prod int) []api.Sym {
	if prod == startProd {
		return []api.Sym{{Kind: api.SymNon, N: c.grammar.Start}}
	}
	return c.grammar.Prods[prod].Right
}

// allRests comes from the right, since what stands behind a symbol counts only where that may be nothing.
func (c *closing) allRests() [][]rest {
	nullable, _ := first.Nullable(c.grammar)
	firsts, _ := first.First(c.grammar)
	var all [][]rest
	for prod := startProd; prod < len(c.grammar.Prods); prod++ {
		right := c.rightOf(prod)
		rests := make([]rest, len(right)+1)
		rests[len(right)] = rest{begin: c.setOf(nil), nullable: true}
		for at, s := range slices.Backward(right) {
			if s.Kind == api.SymTerm {
				rests[at] = rest{begin: c.setOf([]int{s.N})}
				continue
			}
			rests[at] = rest{begin: c.setOf(firsts[s.N])}
			if nullable[s.N] {
				rests[at].begin.Union(rests[at+1].begin)
				rests[at].nullable = rests[at+1].nullable
			}
		}
		all = append(all, rests)
	}
	return all
}

// number gives the items of the next state their sets.
func (c *closing) number(state []api.Item) {
	fresh := slices.Repeat([]int{noSet}, len(c.grammar.Nons))
	numbers := make([]int, len(state))
	for at, i := range state {
		if i.Prod == startProd || i.Dot > 0 {
			numbers[at] = c.newSet()
			continue
		}
		left := c.grammar.Prods[i.Prod].Left
		if fresh[left] == noSet {
			fresh[left] = c.newSet()
		}
		numbers[at] = fresh[left]
	}
	c.numbers = append(c.numbers, numbers)
	c.fresh = append(c.fresh, fresh)
}

// begin puts the end marker behind the start, with which all lookaheads begin that come from no symbols.
func (c *closing) begin() {
	if at, found := place(c.automaton.States[0], api.Item{Prod: startProd}); found {
		c.sets[c.numbers[0][at]].Add(len(c.grammar.Terms))
	}
}

// link puts into the sets what symbols begin with, and finds which sets pass on what they have.
func (c *closing) link() {
	for n, state := range c.automaton.States {
		for at, i := range state {
			right := c.rightOf(i.Prod)
			if i.Dot == len(right) {
				continue
			}
			if behind := right[i.Dot]; behind.Kind == api.SymNon {
				c.bring(c.numbers[n][at], c.fresh[n][behind.N], c.rests[i.Prod-startProd][i.Dot+1])
			}
			c.advance(c.numbers[n][at], n, i)
		}
	}
}

// bring lets the productions of the nonterminal behind a dot have what the rest behind it begins with, and if that may be nothing, what the item has.
func (c *closing) bring(from, to int, r rest) {
	if to == noSet {
		return
	}
	c.sets[to].Union(r.begin)
	if r.nullable {
		c.links[from] = append(c.links[from], to)
	}
}

// advance lets the item advanced have what the item has, if there is such an edge and such an item.
func (c *closing) advance(from, state int, i api.Item) {
	to, leads := c.targets[step{state, c.rightOf(i.Prod)[i.Dot]}]
	if !leads {
		return
	}
	if at, found := place(c.automaton.States[to], api.Item{Prod: i.Prod, Dot: i.Dot + 1}); found {
		c.links[from] = append(c.links[from], c.numbers[to][at])
	}
}

// place is where the item of a core stands among a state's items, whose cores rise.
func place(state []api.Item, core api.Item) (int, bool) {
	return slices.BinarySearchFunc(state, core, func(a, b api.Item) int {
		return cmp.Or(cmp.Compare(a.Prod, b.Prod), cmp.Compare(a.Dot, b.Dot))
	})
}

// closed is the automaton with what the sets have.
func (c *closing) closed() api.Automaton {
	a := api.Automaton{States: make([][]api.Item, len(c.automaton.States)), Edges: slices.Clone(c.automaton.Edges)}
	for n, state := range c.automaton.States {
		a.States[n] = slices.Clone(state)
		for at, number := range c.numbers[n] {
			a.States[n][at].Look = c.sets[number].List()
		}
	}
	return a
}
