package graph

// loops answers the loops of a graph that may be.
func loops(g [][]int) []Loop {
	back := from(g)
	near := nearest(g, back)
	var out []Loop
	for head := range g {
		if begins := goBack(near, head, back[head]); len(begins) > 0 {
			out = append(out, Loop{head, around(head, begins, back)})
		}
	}
	return out
}

// goBack answers those of the nodes which go to head that it dominates. To Dominates each node dominates itself, so that one must be known to be reached, too.
func goBack(nearest []int, head int, nodes []int) []int {
	var out []int
	for _, node := range nodes {
		if reached(nearest, node) && Dominates(nearest, head, node) {
			out = append(out, node)
		}
	}
	return out
}

// around answers head, and what reaches one of the nodes in wait without going through it, rising.
func around(head int, wait []int, back [][]int) []int {
	in := make([]bool, len(back))
	in[head] = true
	for len(wait) > 0 {
		node := wait[len(wait)-1]
		wait = wait[:len(wait)-1]
		if !in[node] {
			in[node] = true
			wait = append(wait, back[node]...)
		}
	}
	var out []int
	for node, is := range in {
		if is {
			out = append(out, node)
		}
	}
	return out
}
