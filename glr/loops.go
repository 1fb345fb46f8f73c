package glr

import (
	"slices"

	"gantry/api"
)

// kidsOf is, by nodes, the nodes to which their alternatives lead.
func kidsOf(nodes []api.ForestNode) [][]int {
	next := make([][]int, len(nodes))
	for n, node := range nodes {
		for _, alt := range node.Alts {
			for _, kid := range alt.Kids {
				if isNode(nodes, kid) {
					next[n] = append(next[n], kid)
				}
			}
		}
	}
	return next
}

// loops is what comes back to itself: what is not alone in its class, or leads to itself at once.
func loops(next [][]int) []int {
	var l []int
	for _, class := range classes(next) {
		if len(class) > 1 || slices.Contains(next[class[0]], class[0]) {
			l = append(l, class...)
		}
	}
	slices.Sort(l)
	return l
}

// classes are of those that lead to one another, by Kosaraju's way: what is first met from the last that was left, going backwards, is of its class.
func classes(next [][]int) [][]int {
	all := make([]int, len(next))
	for n := range all {
		all[n] = n
	}
	left := slices.Concat(search(next, all)...)
	slices.Reverse(left)
	return search(turned(next), left)
}

func turned(next [][]int) [][]int {
	back := make([][]int, len(next))
	for n, l := range next {
		for _, to := range l {
			back[to] = append(back[to], n)
		}
	}
	return back
}

// search is, root by root, what is first met from it, each in the order in which it is left: behind all that is first met from it.
func search(next [][]int, roots []int) [][]int {
	var all [][]int
	met := make([]bool, len(next))
	for _, root := range roots {
		if !met[root] {
			all = append(all, leave(next, root, met))
		}
	}
	return all
}

// visit is where a search stands, and which of the steps from there is next.
type visit struct {
	at, step int
}

func leave(next [][]int, root int, met []bool) []int {
	var left []int
	met[root] = true
	for way := []visit{{at: root}}; len(way) > 0; {
		last := &way[len(way)-1]
		if last.step == len(next[last.at]) {
			left = append(left, last.at)
			way = way[:len(way)-1]
			continue
		}
		to := next[last.at][last.step]
		last.step++
		if !met[to] {
			met[to] = true
			way = append(way, visit{at: to})
		}
	}
	return left
}
