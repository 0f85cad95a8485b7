package graph

import "slices"

// order walks from 0 through a graph that may be.
func order(g [][]int) []int {
	left := slices.Clone(g) // of each node where the walk has not looked yet
	met := make([]bool, len(g))
	met[0] = true
	way := []int{0}
	var done []int
outside:
	for len(way) > 0 {
		node := way[len(way)-1]
		for {
			switch {
			case len(left[node]) == 0:
				done = append(done, node)
				way = way[:len(way)-1]
				continue outside
			case met[left[node][0]]:
				left[node] = left[node][1:]
			default:
				node = left[node][0]
				met[node] = true
				way = append(way, node)
			}
		}
	}
	slices.Reverse(done)
	return done
}

// from turns all edges of a graph that may be. It takes the nodes as they rise, so that what goes to a node rises, too.
func from(g [][]int) [][]int {
	out := make([][]int, len(g))
	for node, tos := range g {
		for _, to := range tos {
			out[to] = append(out[to], node)
		}
	}
	return out
}
