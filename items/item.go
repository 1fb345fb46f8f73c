package items

import (
	"cmp"
	"slices"
	"strings"

	"gantry/api"
	"gantry/symbols"
)

// startProd is the number of start's own production. Its left side is told by a name that no nonterminal may have.
const (
	startProd = -1
	startName = "$start"
)

// rightOf is the right side of a production that there is.
func rightOf(g api.Grammar, prod int) []api.Sym {
	if prod == startProd {
		return []api.Sym{{Kind: api.SymNon, N: g.Start}}
	}
	return g.Prods[prod].Right
}

// restOf is what stands from the dot on.
func restOf(g api.Grammar, c api.Core) []api.Sym {
	return rightOf(g, c.Prod)[c.Dot:]
}

func coreOf(i api.Item) api.Core { return api.Core{Prod: i.Prod, Dot: i.Dot} }

func compareCores(a, b api.Item) int {
	return cmp.Or(cmp.Compare(a.Prod, b.Prod), cmp.Compare(a.Dot, b.Dot))
}

func isKernel(i api.Item) bool {
	return i.Dot > 0 || i.Prod == startProd && i.Dot == 0
}

// itemFault is what is wrong with an item by itself.
func itemFault(g api.Grammar, i api.Item) api.Errno {
	switch {
	case !isThere(g, i):
		return api.ErrItem
	case !inRange(g, i.Look):
		return api.ErrRange
	case !rises(i.Look):
		return api.ErrOrder
	}
	return api.OK
}

// isThere tells whether there is such a production, and such a dot in it.
func isThere(g api.Grammar, i api.Item) bool {
	if i.Prod < startProd || i.Prod >= len(g.Prods) {
		return false
	}
	return i.Dot >= 0 && i.Dot <= len(rightOf(g, i.Prod))
}

func inRange(g api.Grammar, look []int) bool {
	for _, n := range look {
		if n < 0 || n > len(g.Terms) {
			return false
		}
	}
	return true
}

func rises(l []int) bool {
	for i := 1; i < len(l); i++ {
		if l[i-1] >= l[i] {
			return false
		}
	}
	return true
}

// spelling is the text of an item that may be.
func spelling(g api.Grammar, i api.Item) string {
	left := startName
	if i.Prod != startProd {
		left = g.Nons[g.Prods[i.Prod].Left]
	}
	right := rightOf(g, i.Prod)
	var look []api.Sym
	for _, n := range i.Look {
		look = append(look, api.Sym{Kind: api.SymTerm, N: n})
	}
	words := slices.Concat(
		[]string{left, "->"}, names(g, right[:i.Dot]),
		[]string{"."}, names(g, right[i.Dot:]),
		[]string{","}, names(g, look),
	)
	return strings.Join(words, " ")
}

func names(g api.Grammar, l []api.Sym) []string {
	var all []string
	for _, s := range l {
		name, _ := symbols.Spell(g.Terms, g.Nons, []api.Sym{s})
		all = append(all, name)
	}
	return all
}
