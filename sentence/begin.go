package sentence

import (
	"gantry/api"
	"gantry/first"
)

// item is a production of left with a dot, and the symbol behind the dot; a zero one at the end. The item with the dot one symbol further has the next number.
type item struct {
	left int
	next api.Sym
}

// forms is a grammar's productions of use as numbered items.
type forms struct {
	nullable []bool
	items    []item
	rules    [][]int // by nonterminals: the items with the dot ahead of all
	uses     [][]int // by nonterminals: the items with the dot ahead of it
	terms    int
}

// mark is an item and the places at which its left side may have begun.
type mark struct {
	item    int
	origins set
}

// column is all that may be going on behind a beginning of a word. The columns behind its shorter beginnings are its trail.
type column struct {
	origins []set  // by items
	marks   []mark // the same, in the order in which they were found
	waits   []span // of words of a length alone: for which nonterminals do those wait that have begun earlier, and how long may be what comes behind?
	behind  []span // likewise: how long may be what comes behind a nonterminal that begins here? As far as it was asked for.
}

// span is a nonterminal, and which lengths something of it may have.
type span struct {
	non     int
	lengths set
}

// formsOf has those productions that are of use.
func formsOf(g api.Grammar, ofUse func(api.Prod) bool) *forms {
	nullable, _ := first.Nullable(g)
	f := &forms{nullable: nullable, rules: make([][]int, len(g.Nons)), uses: make([][]int, len(g.Nons)), terms: len(g.Terms)}
	for _, p := range g.Prods {
		if !ofUse(p) {
			continue
		}
		f.rules[p.Left] = append(f.rules[p.Left], len(f.items))
		for _, s := range p.Right {
			if s.Kind == api.SymNon {
				f.uses[s.N] = append(f.uses[s.N], len(f.items))
			}
			f.items = append(f.items, item{left: p.Left, next: s})
		}
		f.items = append(f.items, item{left: p.Left})
	}
	return f
}

// starts is the marks of n at a place where it begins.
func (f *forms) starts(n, at int) []mark {
	var marks []mark
	for _, item := range f.rules[n] {
		marks = append(marks, mark{item, setOf(at)})
	}
	return marks
}

// column is what these marks lead to behind a trail.
func (f *forms) column(trail []*column, marks []mark) *column {
	c := closing{forms: f, trail: trail, origins: make([]set, len(f.items))}
	c.addAll(marks)
	for i := 0; i < len(c.marks); i++ {
		c.follow(c.marks[i])
	}
	return &column{origins: c.origins, marks: c.marks}
}

// closing is a column in the making.
type closing struct {
	*forms
	trail   []*column
	origins []set
	marks   []mark
	begun   [api.MaxNons]bool // by nonterminals: does it begin here?
	ended   [api.MaxNons]set  // by nonterminals: where has it begun that ends here?
}

func (c *closing) add(item int, origins set) {
	fresh := origins.without(c.origins[item])
	if fresh.empty() {
		return
	}
	c.origins[item] = c.origins[item].with(fresh)
	c.marks = append(c.marks, mark{item, fresh})
}

func (c *closing) addAll(marks []mark) {
	for _, m := range marks {
		c.add(m.item, m.origins)
	}
}

// follow puts in what a mark leads to.
func (c *closing) follow(m mark) {
	it := c.items[m.item]
	switch it.next.Kind {
	case api.SymTerm:
	case api.SymNon:
		n := it.next.N
		if !c.begun[n] {
			c.begun[n] = true
			c.addAll(c.starts(n, len(c.trail)))
		}
		if c.nullable[n] {
			c.add(m.item+1, m.origins)
		}
	default:
		c.end(it.left, m.origins)
	}
}

// end moves the dots of those that waited for n where it began. Where it begins here, it is empty: dots go over it without waiting.
func (c *closing) end(n int, origins set) {
	fresh := origins.without(c.ended[n])
	c.ended[n] = c.ended[n].with(fresh)
	for at := range fresh.all {
		if at == len(c.trail) {
			break
		}
		for _, item := range c.uses[n] {
			c.add(item+1, c.trail[at].origins[item])
		}
	}
}

// reads is, by terminals, the marks behind one that comes next. Of the places of a mark those are taken that may be.
func (f *forms) reads(c *column, may func(mark) set) [][]mark {
	all := make([][]mark, f.terms)
	for _, m := range c.marks {
		s := f.items[m.item].next
		if s.Kind != api.SymTerm {
			continue
		}
		if origins := may(m); !origins.empty() {
			all[s.N] = append(all[s.N], mark{m.item + 1, origins})
		}
	}
	return all
}

// begins tells whether some word that start gives begins with w.
func begins(g api.Grammar, w []int) bool {
	shortest := lengths(g)
	if shortest[g.Start] == none {
		return false
	}
	f := formsOf(g, func(p api.Prod) bool { return lengthOf(shortest, p.Right) != none })
	marks := f.starts(g.Start, 0)
	var trail []*column
	for _, t := range w {
		last := f.column(trail, marks)
		trail = append(trail, last)
		if t < 0 || t >= f.terms {
			return false
		}
		marks = f.reads(last, func(m mark) set { return m.origins })[t]
		if len(marks) == 0 {
			return false
		}
	}
	return true
}
