package items

import (
	"cmp"
	"slices"

	"gantry/api"
)

// copied is an item whose lookaheads stand in memory of their own.
func copied(i api.Item) api.Item {
	i.Look = slices.Clone(i.Look)
	return i
}

func copies(l []api.Item) []api.Item {
	all := make([]api.Item, 0, len(l))
	for _, i := range l {
		all = append(all, copied(i))
	}
	return all
}

// merged lays two rising lists together, so that the whole rises; what stands in both is joined.
func merged[T any](a, b []T, compare func(a, b T) int, join func(a, b T) T) []T {
	all := make([]T, 0, len(a)+len(b))
	for len(a) > 0 && len(b) > 0 {
		switch c := compare(a[0], b[0]); {
		case c < 0:
			all, a = append(all, a[0]), a[1:]
		case c > 0:
			all, b = append(all, b[0]), b[1:]
		default:
			all, a, b = append(all, join(a[0], b[0])), a[1:], b[1:]
		}
	}
	return append(append(all, a...), b...)
}

// joined is an item with the lookaheads of two of one core.
func joined(a, b api.Item) api.Item {
	a.Look = merged(a.Look, b.Look, cmp.Compare, func(n, _ int) int { return n })
	return a
}

// inOrder is the same numbers, sorted: the list itself, if it is so already, so it is to be read alone.
func inOrder(l []int) []int {
	if slices.IsSorted(l) {
		return l
	}
	l = slices.Clone(l)
	slices.Sort(l)
	return l
}

// isPart tells whether b has all numbers of a; both are sorted, and may have a number more than once.
func isPart(a, b []int) bool {
	for _, n := range a {
		for len(b) > 0 && b[0] < n {
			b = b[1:]
		}
		if len(b) == 0 || b[0] != n {
			return false
		}
	}
	return true
}
