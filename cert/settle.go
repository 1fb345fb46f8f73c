package cert

import "gantry/bits"

// settle goes along links in rounds till join tells no change: join lays what stands at the one end to what stands at the other, and tells whether that changed the latter. The first round goes along all links, each other one along those that lead on from what has changed since.
func settle(links [][]int, join func(from, to int) bool) {
	todo := make([]int, len(links))
	waits := make([]bool, len(links))
	for n := range links {
		todo[n], waits[n] = n, true
	}
	for len(todo) > 0 {
		var next []int
		for _, from := range todo {
			waits[from] = false
			for _, to := range links[from] {
				if join(from, to) && !waits[to] {
					waits[to] = true
					next = append(next, to)
				}
			}
		}
		todo = next
	}
}

// flow lets each set have all that the sets have from which links lead to it.
func flow(sets []*bits.Set, links [][]int) {
	settle(links, func(from, to int) bool { return sets[to].Union(sets[from]) })
}
