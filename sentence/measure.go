package sentence

import (
	"slices"

	"gantry/api"
)

// speller tells which beginnings can become words of one length of a nonterminal.
type speller struct {
	*forms
	non      int
	length   int
	tails    []set      // by items: how long may be what stands behind the dot?
	openings []*opening // by nonterminals, as far as they were asked for
}

// opening is how a nonterminal may begin.
type opening struct {
	gaps []set // by nonterminals with which it may begin: how long may be what it has behind that?
	ends []set // by items whose terminal it may begin with: MaxLength less each length that it may have behind the terminal
}

// spellerOf leaves out productions whose words are all too long.
func spellerOf(g api.Grammar, sizes []set, n, length int) *speller {
	f := formsOf(g, func(p api.Prod) bool { return !sizeOf(sizes, p.Right).empty() })
	return &speller{forms: f, non: n, length: length, tails: f.tails(sizes), openings: make([]*opening, len(g.Nons))}
}

func (f *forms) tails(sizes []set) []set {
	tails := make([]set, len(f.items))
	for i, it := range slices.Backward(f.items) {
		switch it.next.Kind {
		case api.SymNon:
			tails[i] = sizes[it.next.N].plus(tails[i+1])
		case api.SymTerm:
			tails[i] = tails[i+1].up(1)
		default:
			tails[i] = setOf(0)
		}
	}
	return tails
}

// openingOf is found when it is asked for first.
func (s *speller) openingOf(n int) *opening {
	if s.openings[n] == nil {
		gaps := s.gapsOf(n)
		s.openings[n] = &opening{gaps: gaps, ends: s.endsOf(gaps)}
	}
	return s.openings[n]
}

func (s *speller) gapsOf(n int) []set {
	gaps := make([]set, len(s.rules))
	for open := []span{{n, setOf(0)}}; len(open) > 0; open = open[1:] {
		inner := open[0].non
		fresh := open[0].lengths.without(gaps[inner])
		if fresh.empty() {
			continue
		}
		gaps[inner] = gaps[inner].with(fresh)
		s.eachHead(inner, func(item int) {
			if next := s.items[item].next; next.Kind == api.SymNon {
				open = append(open, span{next.N, s.tails[item+1].plus(fresh)})
			}
		})
	}
	return gaps
}

func (s *speller) endsOf(gaps []set) []set {
	ends := make([]set, len(s.items))
	for n, gap := range gaps {
		if gap.empty() {
			continue
		}
		s.eachHead(n, func(item int) {
			if s.items[item].next.Kind == api.SymTerm {
				ends[item] = s.tails[item+1].plus(gap).turned()
			}
		})
	}
	return ends
}

// eachHead hands out the items of n with the dot behind nothing but what may be empty, and ahead of a symbol.
func (f *forms) eachHead(n int, do func(item int)) {
	for _, item := range f.rules[n] {
		for ; f.items[item].next != (api.Sym{}); item++ {
			do(item)
			if next := f.items[item].next; next.Kind == api.SymTerm || !f.nullable[next.N] {
				break
			}
		}
	}
}

// waitsOf finds what those wait for in a column that have begun earlier; at the beginning of all, the whole word is waited for.
func (s *speller) waitsOf(trail []*column, c *column) []span {
	var all [api.MaxNons]set
	if len(trail) == 0 {
		all[s.non].add(0)
	}
	for _, m := range c.marks {
		it := s.items[m.item]
		if it.next.Kind != api.SymNon {
			continue
		}
		for at := range m.origins.all {
			if at < len(trail) {
				n := it.next.N
				all[n] = all[n].with(s.tails[m.item+1].plus(s.behind(trail[at], it.left)))
			}
		}
	}
	var waits []span
	for n, lengths := range all {
		if !lengths.empty() {
			waits = append(waits, span{n, lengths})
		}
	}
	return waits
}

// behind is how long may be what comes behind a nonterminal that begins in a column.
func (s *speller) behind(c *column, n int) set {
	for _, b := range c.behind {
		if b.non == n {
			return b.lengths
		}
	}
	var all set
	for _, w := range c.waits {
		all = all.with(w.lengths.plus(s.openingOf(w.non).gaps[n]))
	}
	c.behind = append(c.behind, span{n, all})
	return all
}

// inTime is those places of a mark with which a word of the length can be ended, if the terminal that is next in the mark comes behind the trail.
func (s *speller) inTime(trail []*column, m mark) set {
	spare := api.MaxLength - (s.length - len(trail))
	// What comes behind the left side must leave a length for what stands behind the terminal.
	fits := s.tails[m.item+1].turned().down(spare)
	here := len(trail) - 1
	var may set
	for at := range m.origins.all {
		if at < here && !s.behind(trail[at], s.items[m.item].left).both(fits).empty() ||
			at == here && s.opens(trail[here], m.item, spare) {
			may.add(at)
		}
	}
	return may
}

// opens tells whether something that is waited for may begin with an item's terminal, and the word be ended in time.
func (s *speller) opens(c *column, item, spare int) bool {
	return slices.ContainsFunc(c.waits, func(w span) bool {
		return !s.openingOf(w.non).ends[item].down(spare).both(w.lengths).empty()
	})
}
