package validate

import (
	"cmp"
	"slices"

	"gantry/api"
	"gantry/bits"
	"gantry/first"
)

// checkInitial asks that the whole of a text is awaited from the beginning.
func (c *checker) checkInitial() (api.Errno, int) {
	i, found := find(c.cert.Items[0], startProd, 0)
	if !found || !slices.Contains(i.Look, c.end()) {
		return api.ErrInitial, 0
	}
	return api.OK, 0
}

// checkItems asks of each item that what it awaits is awaited and done.
func (c *checker) checkItems() (api.Errno, int) {
	next := c.allNext()
	for state, l := range c.cert.Items {
		fresh := c.freshOf(l)
		for _, i := range l {
			if e := c.checkItem(state, i, next, fresh); e != api.OK {
				return e, state
			}
		}
	}
	return api.OK, 0
}

func (c *checker) checkItem(state int, i api.Item, next [][][]int, fresh []*bits.Set) api.Errno {
	right := c.rightOf(i.Prod)
	if i.Dot == len(right) {
		return c.checkDone(state, i)
	}
	behind := right[i.Dot]
	if behind.Kind == api.SymNon && !c.isAwaited(next[i.Prod-startProd][i.Dot], i.Look, fresh[behind.N]) {
		return api.ErrClosure
	}
	to := c.target(state, behind)
	switch {
	case to == noState && behind.Kind == api.SymNon:
		return api.ErrGoto
	case to == noState:
		return api.ErrAction
	}
	advanced, found := find(c.cert.Items[to], i.Prod, i.Dot+1)
	if !found || !isPart(i.Look, advanced.Look) {
		return api.ErrClosure
	}
	return api.OK
}

// checkDone asks that a complete item is reduced under each of its lookaheads.
func (c *checker) checkDone(state int, i api.Item) api.Errno {
	want := api.Action{Kind: api.ActReduce, Arg: i.Prod}
	if i.Prod == startProd {
		want = api.Action{Kind: api.ActAccept}
	}
	for _, look := range i.Look {
		if c.action(state, look) != want {
			return api.ErrAction
		}
	}
	return api.OK
}

// allNext is by productions, start's own first, and dots, with what the symbols behind the symbol there go on. The end marker among them stands for an item's own lookaheads: no claim of first has it, so it is there just if these symbols are nullable.
func (c *checker) allNext() [][][]int {
	own := []int{c.end()}
	var all [][][]int
	for prod := startProd; prod < len(c.grammar.Prods); prod++ {
		right := c.rightOf(prod)
		next := make([][]int, len(right))
		for dot := range right {
			next[dot], _ = first.Of(c.grammar, c.cert.Nullable, c.cert.First, right[dot+1:], own)
		}
		all = append(all, next)
	}
	return all
}

// freshOf is of each nonterminal the lookaheads with which all its productions stand among items with the dot at the beginning; nil, if they do not all stand there.
func (c *checker) freshOf(l []api.Item) []*bits.Set {
	all := make([]*bits.Set, len(c.grammar.Nons))
	for n := range all {
		all[n] = c.everyLook()
	}
	for prod, p := range c.grammar.Prods {
		i, found := find(l, prod, 0)
		if !found {
			all[p.Left] = nil
			continue
		}
		all[p.Left].Meet(setOf(c.end()+1, i.Look)) // of nil nothing becomes more
	}
	return all
}

func (c *checker) everyLook() *bits.Set {
	s, _ := bits.NewSet(c.end() + 1)
	for look := range s.Size() {
		s.Add(look)
	}
	return s
}

// isAwaited tells whether a nonterminal's productions stand among the items with all that may come behind it.
func (c *checker) isAwaited(next, look []int, fresh *bits.Set) bool {
	lacks := func(n int) bool { return !fresh.Has(n) }
	if fresh == nil {
		return false
	}
	for _, n := range next {
		if n != c.end() && lacks(n) || n == c.end() && slices.ContainsFunc(look, lacks) {
			return false
		}
	}
	return true
}

// find is the item of a core among items whose cores rise.
func find(l []api.Item, prod, dot int) (api.Item, bool) {
	at, found := slices.BinarySearchFunc(l, api.Core{Prod: prod, Dot: dot}, func(i api.Item, core api.Core) int {
		return cmp.Or(cmp.Compare(i.Prod, core.Prod), cmp.Compare(i.Dot, core.Dot))
	})
	if !found {
		return api.Item{}, false
	}
	return l[at], true
}

// isPart tells of two lists that rise whether the second has all numbers of the first.
func isPart(part, whole []int) bool {
	for _, n := range part {
		at, found := slices.BinarySearch(whole, n)
		if !found {
			return false
		}
		whole = whole[at+1:]
	}
	return true
}
