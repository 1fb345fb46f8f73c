package bits

// cycle is of all shortest cycles the least, of a relation that has one. The lowest number on a shortest one begins it; so each number is asked in turn for a cycle shorter than those ahead of it, and those asked already need no second visit.
func cycle(rows []*Set) []int {
	into := turned(rows)
	asked := empty(len(rows))
	var start, length int
	var steps []int
	for x := range rows {
		far := stepsTo(x, length, into, asked.Copy())
		if far[x] > 0 {
			start, length, steps = x, far[x], far
		}
		asked.Add(x)
	}
	return around(start, rows, steps)
}

// stepsTo tells how many steps each number is away from x, with 0 for not found; x itself, as many as its shortest cycle has. It goes by numbers that are not seen yet, and, if most is not 0, finds only what is fewer steps away than most.
func stepsTo(x, most int, into []*Set, seen *Set) []int {
	steps := make([]int, len(into))
	queue := []int{x}
	for len(queue) > 0 {
		y := queue[0]
		queue = queue[1:]
		far := steps[y] + 1
		if far == most {
			break
		}
		for z := into[y].lacked(0, seen); z < len(into); z = into[y].lacked(z+1, seen) {
			seen.Add(z)
			steps[z] = far
			if z == x {
				return steps
			}
			queue = append(queue, z)
		}
	}
	return steps
}

// around goes from a number round its shortest cycle, by the lowest number that is one step nearer to it.
func around(start int, rows []*Set, steps []int) []int {
	list := []int{start}
	for far := steps[start] - 1; far > 0; far-- {
		for _, y := range rows[list[len(list)-1]].List() {
			if steps[y] == far {
				list = append(list, y)
				break
			}
		}
	}
	return list
}
