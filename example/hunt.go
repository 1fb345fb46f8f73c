package example

import (
	"container/heap"
	"slices"

	"gantry/api"
	"gantry/first"
	"gantry/grammar"
)

// hunt is for the first word that has a tree that makes a move: an action in a state, with a lookahead next. Such words are those of a greater grammar, whose nonterminals are the parts of the given one, each in several roles. Of the words of a part only the first ever counts: with a later one in its place every word would be later, too.
type hunt struct {
	*automaton
	state    int
	look     int
	act      api.Action
	nullable []bool
	rules    [][]int // productions by nonterminals
	numbers  map[part]int
	parts    []part // a list that grows at its end while it is gone through
	makes    []making
	uses     [][]int // by parts: the makings in which they stand
}

// making makes a word of a part of words of others, one behind the other.
type making struct {
	part int
	of   []int // two others at most, and unlike ones
}

// firstWord is the first word of at most so many terminals that has a tree that makes the move.
func firstWord(a *automaton, c api.Conflict, act api.Action, longest int) ([]int, bool) {
	h := &hunt{automaton: a, state: c.State, look: c.Look, act: act, numbers: make(map[part]int)}
	h.nullable, _ = first.Nullable(a.grammar)
	for n := range a.grammar.Nons {
		h.rules = append(h.rules, grammar.Rules(a.grammar, n))
	}
	goal := h.number(h.goal())
	for n := 0; n < len(h.parts); n++ {
		h.open(n)
	}
	return h.run(goal, longest)
}

// goal is the part whose words are hunted for. A parser accepts every word; and with the end marker next, the move is made behind all tokens.
func (h *hunt) goal() part {
	goal := part{role: inner, what: h.grammar.Start, dot: nonDot}
	switch {
	case h.act.Kind == api.ActAccept:
		goal.role = whole
	case h.look == len(h.grammar.Terms):
		goal.role = ending
	}
	return goal
}

func (h *hunt) number(p part) int {
	n, known := h.numbers[p]
	if !known {
		n = len(h.parts)
		h.numbers[p] = n
		h.parts = append(h.parts, p)
		h.uses = append(h.uses, nil)
	}
	return n
}

func (h *hunt) make(n int, of ...part) {
	m := making{part: n}
	for _, p := range of {
		other := h.number(p)
		m.of = append(m.of, other)
		h.uses[other] = append(h.uses[other], len(h.makes))
	}
	h.makes = append(h.makes, m)
}

// find is a word of a part.
type find struct {
	part  int
	terms []int
}

// finds are those that are still to be looked at: a heap.
type finds []find

func (f finds) Len() int           { return len(f) }
func (f finds) Less(i, j int) bool { return compareWords(f[i].terms, f[j].terms) < 0 }
func (f finds) Swap(i, j int)      { f[i], f[j] = f[j], f[i] }
func (f *finds) Push(x any)        { *f = append(*f, x.(find)) }

func (f *finds) Pop() any {
	last := (*f)[len(*f)-1]
	*f = (*f)[:len(*f)-1]
	return last
}

// compareWords is the order of words: by length, then as lists.
func compareWords(v, w []int) int {
	if len(v) != len(w) {
		return len(v) - len(w)
	}
	return slices.Compare(v, w)
}

// run looks at words in their order, so that each part's first is found first: no word is ahead of those that it is made of.
func (h *hunt) run(goal, longest int) ([]int, bool) {
	words, known := make([][]int, len(h.parts)), make([]bool, len(h.parts))
	var open finds
	try := func(m making) {
		var terms []int
		for _, other := range m.of {
			if !known[other] {
				return
			}
			terms = append(terms, words[other]...)
		}
		if len(terms) <= longest && !known[m.part] {
			heap.Push(&open, find{m.part, terms})
		}
	}
	for n, p := range h.parts {
		if p.dot == leafDot {
			open = append(open, find{n, []int{p.what}})
		}
	}
	heap.Init(&open)
	for _, m := range h.makes {
		try(m)
	}
	for len(open) > 0 && !known[goal] {
		next := heap.Pop(&open).(find)
		if known[next.part] {
			continue
		}
		words[next.part], known[next.part] = next.terms, true
		for _, n := range h.uses[next.part] {
			try(h.makes[n])
		}
	}
	return words[goal], known[goal]
}
