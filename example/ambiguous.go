package example

import (
	"slices"

	"gantry/api"
	"gantry/cert"
	"gantry/lrzero"
	"gantry/sentence"
	"gantry/table"
)

// ambiguous asks no word that is known to stand ahead of all that have two trees.
func ambiguous(g api.Grammar, length int) ([]int, []api.Tree, api.Errno) {
	greatest := slices.Repeat([]int{len(g.Terms) - 1}, length)
	c := crowdOf(g, 1, greatest)
	if conflicts, e := conflictsOf(g); e == api.OK {
		from, some := earliest(g, conflicts, length)
		if !some {
			return nil, nil, api.ErrNone
		}
		c.from = from
	}
	word, found := c.first()
	if !found {
		return nil, nil, api.ErrNone
	}
	two, e := sentence.Trees(g, g.Start, word, 2)
	return word, two, e
}

// conflictsOf is by cert.Close, which tells the same as lookahead.Attach, however many transitions there are.
func conflictsOf(g api.Grammar) ([]api.Conflict, api.Errno) {
	z, e := lrzero.Build(g)
	if e != api.OK {
		return nil, e
	}
	a, e := cert.Close(g, z)
	if e != api.OK {
		return nil, e
	}
	return table.Conflicts(g, a)
}

// mostWishes is for how many words it is worth while to hunt, ahead of a search that may be short without it.
const mostWishes = 256

// wish is what states want with a lookahead next; to which state a shift leads is left out.
type wish struct {
	act  api.Action
	look int
}

// hunted is what became of a hunt.
type hunted struct {
	word  []int
	found bool
}

// wishes hunts for each wish once, over an automaton all of whose states are one: so it is soon done, and a word that it finds is not behind those of any state.
type wishes struct {
	blind   *automaton
	longest int
	known   map[wish]hunted
}

// earliest is a word of at most so many terminals that stands behind none that has two trees; false, if no word has. Two trees of a word part at a conflict: so it has a tree that takes the one thing, and a tree that takes the other.
func earliest(g api.Grammar, conflicts []api.Conflict, longest int) (word []int, found bool) {
	w := wishes{&automaton{grammar: g}, longest, make(map[wish]hunted)}
	for _, c := range conflicts {
		both, ok := w.both(c)
		if len(w.known) > mostWishes {
			return nil, true
		}
		if ok && (!found || compareWords(both, word) < 0) {
			word, found = both, true
		}
	}
	return word, found
}

// both is a word that stands behind none at which two trees part at the conflict.
func (w *wishes) both(c api.Conflict) ([]int, bool) {
	var words [][]int
	for _, act := range thingsOf(c) {
		if act.Kind == api.ActShift {
			act.Arg = 0
		}
		if h := w.hunt(wish{act, c.Look}); h.found {
			words = append(words, h.word)
		}
	}
	if len(words) < 2 {
		return nil, false
	}
	slices.SortFunc(words, compareWords)
	return words[1], true
}

func (w *wishes) hunt(x wish) hunted {
	h, known := w.known[x]
	if !known {
		h.word, h.found = firstWord(w.blind, api.Conflict{Look: x.look}, x.act, w.longest)
		w.known[x] = h
	}
	return h
}
