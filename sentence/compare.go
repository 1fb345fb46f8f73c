package sentence

import (
	"cmp"

	"gantry/api"
	"gantry/trees"
)

// level is two lists of kids that are gone over side by side, and which of them is being looked at.
type level struct {
	a, b []api.Tree
	at   int
}

// compare is the order of two trees that have the same root and yield the same word. Up to the first place at which their productions are unlike they are the same, so that only the kids beside the way to that place can have unlike lengths.
func compare(a, b api.Tree) int {
	way := parting(a, b)
	if len(way) == 0 {
		return 0
	}
	for _, l := range way {
		if c := compareLengths(l); c != 0 {
			return c
		}
	}
	last := way[len(way)-1]
	return cmp.Compare(last.a[last.at].Prod, last.b[last.at].Prod)
}

// parting is the way to the first place at which the productions are unlike; empty, if there is none.
func parting(a, b api.Tree) []level {
	way := []level{{a: []api.Tree{a}, b: []api.Tree{b}}}
	for len(way) > 0 {
		last := &way[len(way)-1]
		if last.at == len(last.a) {
			way = way[:len(way)-1]
			if len(way) > 0 {
				way[len(way)-1].at++
			}
			continue
		}
		x, y := &last.a[last.at], &last.b[last.at]
		if x.Prod != y.Prod {
			return way
		}
		way = append(way, level{a: x.Kids, b: y.Kids})
	}
	return nil
}

// compareLengths is the order by lengths of kids. Both lists yield the same in all; so the kid on the way is shorter where those behind it are longer.
func compareLengths(l level) int {
	firstUnlike, sumA, sumB := 0, 0, 0
	for i := l.at + 1; i < len(l.a); i++ {
		_, lengthA, _ := trees.Measure(l.a[i])
		_, lengthB, _ := trees.Measure(l.b[i])
		sumA += lengthA
		sumB += lengthB
		if firstUnlike == 0 {
			firstUnlike = cmp.Compare(lengthA, lengthB)
		}
	}
	return cmp.Or(cmp.Compare(sumB, sumA), firstUnlike)
}

// leaves hands out the kinds of a tree's leaves, from the left, one at each call; ok is false behind the last.
func leaves(t api.Tree) func() (kind int, ok bool) {
	stack := [][]api.Tree{{t}}
	return func() (int, bool) {
		for len(stack) > 0 {
			row := stack[len(stack)-1]
			if len(row) == 0 {
				stack = stack[:len(stack)-1]
				continue
			}
			stack[len(stack)-1] = row[1:]
			if row[0].Prod == -1 {
				return row[0].Tok.Kind, true
			}
			stack = append(stack, row[0].Kids)
		}
		return 0, false
	}
}

func sameWord(a, b api.Tree) bool {
	nextA, nextB := leaves(a), leaves(b)
	for {
		kindA, okA := nextA()
		kindB, okB := nextB()
		if okA != okB || kindA != kindB {
			return false
		}
		if !okA {
			return true
		}
	}
}
