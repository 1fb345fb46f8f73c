package example

import (
	"slices"

	"gantry/api"
)

// noState is where no shift leads to.
const noState = -1

func isAmong(c api.Conflict, l []api.Conflict) bool {
	return slices.ContainsFunc(l, func(x api.Conflict) bool {
		return x.State == c.State && x.Look == c.Look && x.Shift == c.Shift && slices.Equal(x.Reduce, c.Reduce)
	})
}

// thingsOf is what the state wants, two things or more: the shift first, then acceptance, then reductions.
func thingsOf(c api.Conflict) []api.Action {
	var l []api.Action
	if c.Shift != noState {
		l = append(l, api.Action{Kind: api.ActShift, Arg: c.Shift})
	}
	for _, prod := range c.Reduce {
		if prod == startProd {
			l = append(l, api.Action{Kind: api.ActAccept})
		} else {
			l = append(l, api.Action{Kind: api.ActReduce, Arg: prod})
		}
	}
	return l
}

// explainer proves the things of one conflict of all that there are.
type explainer struct {
	*automaton
	conflicts []api.Conflict
	conflict  api.Conflict
}

// proofs hunts for the words ahead of all, so that only words up to the last of them are asked whether they have too many trees.
func (x *explainer) proofs(length int) ([]Proof, api.Errno) {
	var proofs []Proof
	for _, act := range thingsOf(x.conflict) {
		w, found := firstWord(x.automaton, x.conflict, act, length)
		if !found {
			return nil, api.ErrSearch
		}
		proofs = append(proofs, Proof{Act: act, Word: w})
	}
	crowded, found := x.crowded(proofs)
	for i := range proofs {
		if found && compareWords(crowded, proofs[i].Word) < 0 || !x.prove(&proofs[i]) {
			return nil, api.ErrSearch
		}
	}
	return proofs, api.OK
}

// crowded is the first word that has more than MaxTrees trees, if it is not behind all proofs.
func (x *explainer) crowded(proofs []Proof) ([]int, bool) {
	var last []int
	for _, p := range proofs {
		if compareWords(p.Word, last) > 0 {
			last = p.Word
		}
	}
	c := crowdOf(x.grammar, api.MaxTrees, last)
	c.bound = choicesOf(x.grammar, x.conflicts, len(last), api.MaxTrees+1)
	return c.first()
}

// prove finds the tree of a proof's word, and the move; false, if there are too many trees ahead of it.
func (x *explainer) prove(p *Proof) bool {
	trees := countsOf(x.grammar, len(p.Word), api.MaxTrees+1)
	for _, kind := range p.Word {
		trees.know(kind)
	}
	trees.eachTree(func(t api.Tree) bool {
		p.Tree, p.Move = t, x.moveOf(t, p)
		return p.Move < 0
	})
	return p.Move >= 0
}

// moveOf is the first move that builds a tree of the proof's word and is what it proves; -1, if there is none.
func (x *explainer) moveOf(t api.Tree, p *Proof) int {
	looks := append(slices.Clone(p.Word), len(x.grammar.Terms))
	return slices.IndexFunc(movesOf(x.automaton, &t), func(m Move) bool {
		return m.State == x.conflict.State && m.Act == p.Act && looks[m.At] == x.conflict.Look
	})
}
