package cert

import (
	"slices"

	"gantry/api"
)

// beginsWith tells whether the second list is a beginning of the first.
func beginsWith(l, beginning []api.Sym) bool {
	return len(beginning) <= len(l) && slices.Equal(l[:len(beginning)], beginning)
}

// areParts tells whether there are no more of b's lists than of a's, and each has that of a as a part.
func areParts(a, b [][]int) bool {
	return len(b) <= len(a) && slices.EqualFunc(a[:len(b)], b, isPart)
}

// isPart tells whether b has all numbers of a, in whatever order.
func isPart(a, b []int) bool {
	b = inOrder(b)
	for _, n := range a {
		if _, found := slices.BinarySearch(b, n); !found {
			return false
		}
	}
	return true
}

// inOrder is the same numbers, sorted: the list itself, if it is so already, so it is to be read alone.
func inOrder(l []int) []int {
	if slices.IsSorted(l) {
		return l
	}
	return slices.Sorted(slices.Values(l))
}
