package bits

import (
	"cmp"
	"slices"
)

// solve makes for each number the union of what it has first and of what all that it reaches have first; numbers of one component have one set.
func solve(rows, first []*Set) []*Set {
	solved := make([]*Set, len(rows))
	for _, class := range components(rows) {
		all := gather(class, rows, first, solved)
		for _, x := range class {
			solved[x] = all
		}
	}
	return solved
}

// gather unites what a component's numbers have first with what is solved behind their edges; only its own numbers are not solved yet.
func gather(class []int, rows, first, solved []*Set) *Set {
	all := first[class[0]].Copy()
	for _, x := range class {
		all.Union(first[x])
		for _, y := range rows[x].List() {
			if solved[y] != nil {
				all.Union(solved[y])
			}
		}
	}
	return all
}

// components is the classes in the order of Components.
func components(rows []*Set) [][]int {
	classes := classesOf(rows)
	list := make([][]int, 0, len(classes))
	for _, at := range place(between(classes, rows)) {
		list = append(list, classes[at])
	}
	return list
}

// classesOf lists the numbers that reach each other, by Kosaraju's way: what a search leaves last reaches out of its class at most, so that a search against the edges from there stays in.
func classesOf(rows []*Set) [][]int {
	left := slices.Concat(search(rows, upTo(len(rows)))...)
	slices.Reverse(left)
	classes := search(turned(rows), left)
	for _, class := range classes {
		slices.Sort(class)
	}
	slices.SortFunc(classes, func(a, b []int) int { return cmp.Compare(a[0], b[0]) })
	return classes
}

func upTo(n int) []int {
	list := make([]int, n)
	for x := range list {
		list[x] = x
	}
	return list
}

// between is the relation of the classes, by their places, without edges inside one.
func between(classes [][]int, rows []*Set) []*Set {
	home := make([]int, len(rows))
	for at, class := range classes {
		for _, x := range class {
			home[x] = at
		}
	}
	out := empties(len(classes), len(classes))
	for x, row := range rows {
		for _, y := range row.List() {
			if home[x] != home[y] {
				out[home[x]].Add(home[y])
			}
		}
	}
	return out
}

// place lists numbers, each behind all that its row has, of those that may stand next the lowest first. Where none may, the list ends short.
func place(rows []*Set) []int {
	list := make([]int, 0, len(rows))
	placed := empty(len(rows))
	waits := make([]int, len(rows)) // for which of its row: those below it are placed, and stay so
next:
	for len(list) < len(rows) {
		for x, row := range rows {
			if placed.Has(x) {
				continue
			}
			waits[x] = row.lacked(waits[x], placed)
			if waits[x] == len(rows) {
				list = append(list, x)
				placed.Add(x)
				continue next
			}
		}
		break
	}
	return list
}

// search goes, from each root that is not seen yet, to all that is not seen yet, and lists for each such root what it left, in that order.
func search(rows []*Set, roots []int) [][]int {
	seen := empty(len(rows))
	var lists [][]int
	for _, root := range roots {
		if seen.Add(root) {
			lists = append(lists, leave(root, rows, seen))
		}
	}
	return lists
}

// leave keeps its path in a list, since a path may be as long as there are numbers.
func leave(root int, rows []*Set, seen *Set) []int {
	var left []int
	path := []int{root}
	for len(path) > 0 {
		last := len(path) - 1
		if y := rows[path[last]].lacked(0, seen); y < len(rows) {
			seen.Add(y)
			path = append(path, y)
			continue
		}
		left = append(left, path[last])
		path = path[:last]
	}
	return left
}

// turned is the relation with each edge the other way round.
func turned(rows []*Set) []*Set {
	into := empties(len(rows), len(rows))
	for x, row := range rows {
		for _, y := range row.List() {
			into[y].Add(x)
		}
	}
	return into
}
