package earley

import (
	"cmp"
	"slices"

	"gantry/api"
	"gantry/first"
)

// wholeDot is the dot of an item that is no production's, but a nonterminal as a whole.
const wholeDot = -1

// item is a production with a dot, or the whole of a nonterminal, left.
type item struct {
	prod  int
	dot   int
	left  int
	next  api.Sym // behind the dot; zero at the end
	moved int     // the item with the dot one symbol further; at the end the whole of left
}

// span is items from one on, up to the one ahead of another.
type span struct {
	from, to int
}

// forms is a grammar's productions as numbered items. Start's own production is the first, ahead of the grammar's, and its left side a nonterminal behind the grammar's, so that it needs no care of its own.
type forms struct {
	prods    []api.Prod
	rules    [][]int // by nonterminals: the productions of use
	nullable []bool
	items    []item
	numbers  [][]int          // of items, by productions and dots
	waits    map[api.Sym]span // by symbols: the items whose dot stands ahead of it
}

func formsOf(g api.Grammar, ofUse func(api.Prod) bool) *forms {
	nullable, _ := first.Nullable(g)
	own := api.Prod{Left: len(g.Nons), Right: []api.Sym{non(g.Start)}}
	f := &forms{prods: slices.Concat([]api.Prod{own}, g.Prods), rules: make([][]int, len(g.Nons)+1), nullable: nullable}
	for i, p := range f.prods {
		if i == 0 || ofUse(p) {
			f.rules[p.Left] = append(f.rules[p.Left], i)
		}
	}
	f.makeItems()
	f.number()
	return f
}

// makeItems makes the wholes, so that they have their nonterminals' numbers, and then all others. Those that wait for one symbol stand side by side: so they do in each set.
func (f *forms) makeItems() {
	for n := range f.rules {
		f.items = append(f.items, item{dot: wholeDot, left: n})
	}
	for i, p := range f.prods {
		for dot, s := range p.Right {
			f.items = append(f.items, item{prod: i, dot: dot, left: p.Left, next: s})
		}
		f.items = append(f.items, item{prod: i, dot: len(p.Right), left: p.Left})
	}
	slices.SortStableFunc(f.items, func(a, b item) int {
		return cmp.Or(cmp.Compare(a.next.Kind, b.next.Kind), cmp.Compare(a.next.N, b.next.N))
	})
}

// number writes down where items stand.
func (f *forms) number() {
	for _, p := range f.prods {
		f.numbers = append(f.numbers, make([]int, len(p.Right)+1))
	}
	f.waits = make(map[api.Sym]span)
	for i, it := range f.items {
		if it.dot != wholeDot {
			f.numbers[it.prod][it.dot] = i
		}
		waits, met := f.waits[it.next]
		if !met {
			waits.from = i
		}
		waits.to = i + 1
		f.waits[it.next] = waits
	}
	for i, it := range f.items {
		f.items[i].moved = it.left
		if it.next != (api.Sym{}) {
			f.items[i].moved = f.numbers[it.prod][it.dot+1]
		}
	}
}

// own is the nonterminal of start's own production.
func (f *forms) own() int { return len(f.rules) - 1 }

// endOf is the item of a production whose dot stands at the end.
func (f *forms) endOf(prod int) int { return f.numbers[prod][len(f.prods[prod].Right)] }

func non(n int) api.Sym { return api.Sym{Kind: api.SymNon, N: n} }

func term(n int) api.Sym { return api.Sym{Kind: api.SymTerm, N: n} }
