package earley

import (
	"cmp"
	"slices"

	"gantry/api"
	"gantry/first"
	"gantry/trim"
)

// chart is the sets of a word, up to the first one that is empty: behind that all are.
type chart struct {
	*forms
	word []int
	ends func(n, at int) bool // may a nonterminal end at a place, as far as the terminal that comes next tells?
	sets []marks              // by places: which items stand there, and where they began
}

// wholeChart has all that the chapter puts into the sets.
func wholeChart(g api.Grammar, w []int) *chart {
	all := func(api.Prod) bool { return true }
	return chartOf(formsOf(g, all), w, func(int, int) bool { return true })
}

// usefulChart leaves out what no text that begins with the word needs: barren nonterminals, and ends of nonterminals ahead of terminals that never follow them. Without these a nonterminal at the end of its own production costs no more than one at the beginning.
func usefulChart(g api.Grammar, w []int) *chart {
	barren, _ := trim.Barren(g)
	fruitful := func(p api.Prod) bool {
		return !slices.ContainsFunc(barren, func(n int) bool { return slices.Contains(p.Right, non(n)) })
	}
	follow, _ := first.Follow(g)
	return chartOf(formsOf(g, fruitful), w, func(n, at int) bool {
		return at == len(w) || n < len(follow) && slices.Contains(follow[n], w[at])
	})
}

func chartOf(f *forms, w []int, ends func(n, at int) bool) *chart {
	c := &chart{forms: f, word: w, ends: ends}
	c.addSet(marks{markOf(f.numbers[0][0], 0)})
	for at, t := range w {
		read := c.read(at, t)
		if len(read) == 0 {
			break
		}
		c.addSet(read)
	}
	return c
}

// read is what the set of a place comes to behind a terminal.
func (c *chart) read(at, t int) marks {
	var l marks
	for _, m := range c.sets[at].within(c.waits[term(t)]) {
		l = append(l, m.with(c.items[m.item].moved))
	}
	return l
}

// addSet puts in the set of the next place, in which these marks are.
func (c *chart) addSet(read marks) {
	s := growth{chart: c, place: len(c.sets), found: make(map[spot]uint64), begun: make([]bool, len(c.rules))}
	for _, m := range read {
		s.add(m)
	}
	for i := 0; i < len(s.list); i++ {
		s.follow(s.list[i])
	}
	c.sets = append(c.sets, s.set())
}

// growth is a set in the making: a list that grows while it is gone over, and a map of what is in it.
type growth struct {
	*chart
	place int
	list  marks
	found map[spot]uint64
	begun []bool // by nonterminals: do they begin here?
}

// add puts in what is new in a mark.
func (s *growth) add(m mark) {
	known := s.found[m.spot]
	m.places &^= known
	if m.places != 0 {
		s.found[m.spot] = known | m.places
		s.list = append(s.list, m)
	}
}

// follow puts in what a mark leads to.
func (s *growth) follow(m mark) {
	it := s.items[m.item]
	switch {
	case it.dot == wholeDot:
		s.complete(m)
	case it.next.Kind == api.SymNon:
		n := it.next.N
		s.begin(n)
		if s.nullable[n] && s.ends(n, s.place) {
			s.add(m.with(it.moved))
		}
	case it.next == api.Sym{} && s.ends(it.left, s.place):
		s.add(m.with(it.moved))
	}
}

func (s *growth) begin(n int) {
	if s.begun[n] {
		return
	}
	s.begun[n] = true
	for _, prod := range s.rules[n] {
		s.add(markOf(s.numbers[prod][0], s.place))
	}
}

// complete moves the dots of those that waited for a nonterminal where it began. Where it begins and ends here, dots have gone over it without waiting: some of those that wait for it may come behind its end.
func (s *growth) complete(m mark) {
	waits := s.waits[non(m.item)]
	for from := range m.all {
		if from == s.place {
			break
		}
		for _, waiting := range s.sets[from].within(waits) {
			s.add(waiting.with(s.items[waiting.item].moved))
		}
	}
}

func (s *growth) set() marks {
	l := make(marks, 0, len(s.found))
	for at, places := range s.found {
		l = append(l, mark{at, places})
	}
	l.sort()
	return l
}

// last is the set behind the whole word.
func (c *chart) last() marks {
	if len(c.sets) <= len(c.word) {
		return nil
	}
	return c.sets[len(c.word)]
}

// accepts tells whether start gives the whole word.
func (c *chart) accepts() bool { return c.last().has(c.own(), 0) }

// next is the terminals for which something waits behind the whole word.
func (c *chart) next() []int {
	var l []int
	for _, m := range c.last() {
		if s := c.items[m.item].next; s.Kind == api.SymTerm {
			l = append(l, s.N)
		}
	}
	return slices.Compact(l)
}

// told is the sets as they are told.
func (c *chart) told() [][]State {
	all := make([][]State, len(c.word)+1)
	for i, set := range c.sets {
		all[i] = c.toldSet(set)
	}
	return all
}

func (c *chart) toldSet(set marks) []State {
	told := c.inOrder(set)
	l := make([]State, 0, told.count())
	for _, m := range told {
		it := c.items[m.item]
		for from := range m.all {
			l = append(l, State{Prod: it.prod - 1, Dot: it.dot, From: from})
		}
	}
	return l
}

// inOrder is the marks of productions, in the order in which these are told.
func (c *chart) inOrder(set marks) marks {
	l := slices.DeleteFunc(slices.Clone(set), func(m mark) bool { return c.items[m.item].dot == wholeDot })
	slices.SortFunc(l, func(a, b mark) int {
		x, y := c.items[a.item], c.items[b.item]
		return cmp.Or(cmp.Compare(x.prod, y.prod), cmp.Compare(x.dot, y.dot), cmp.Compare(a.block, b.block))
	})
	return l
}
