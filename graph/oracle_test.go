package graph_test

import (
	"slices"

	"bellcrank/graph"
)

// mayBe tells by the document's words whether a graph may be.
func mayBe(g [][]int) bool {
	all := len(g) >= 1 && len(g) <= 256
	for _, tos := range g {
		all = all && len(tos) <= 128
		for _, to := range tos {
			all = all && to >= 0 && to <= len(g)-1
		}
	}
	return all
}

// toldOrder is the order, by a walk that calls itself.
func toldOrder(g [][]int) []int {
	met := map[int]bool{}
	var l []int
	var walk func(node int)
	walk = func(node int) {
		met[node] = true
		for _, to := range g[node] {
			if !met[to] {
				walk(to)
			}
		}
		l = append([]int{node}, l...)
	}
	walk(0)
	return l
}

// reaches tells what a node reaches where one node is not there (-1: all are), itself too.
func reaches(g [][]int, begin, without int) []bool {
	in := make([]bool, len(g))
	if begin == without {
		return in
	}
	in[begin] = true
	for wait := []int{begin}; len(wait) > 0; wait = wait[1:] {
		for _, to := range g[wait[0]] {
			if to != without && !in[to] {
				in[to] = true
				wait = append(wait, to)
			}
		}
	}
	return in
}

// toldDominates tells of each two nodes whether the first one dominates the second one: without it that is not reached.
func toldDominates(g [][]int) [][]bool {
	all := reaches(g, 0, -1)
	out := make([][]bool, len(g))
	for a := range g {
		rest := reaches(g, 0, a)
		out[a] = make([]bool, len(g))
		for b := range g {
			out[a][b] = all[a] && all[b] && !rest[b]
		}
	}
	return out
}

// toldNearest is of each node the one that all others dominate which dominate it and are not it.
func toldNearest(g [][]int) []int {
	dominates := toldDominates(g)
	out := make([]int, len(g))
	for b := range g {
		out[b] = -1
		for a := range g {
			if a == b || !dominates[a][b] {
				continue
			}
			last := true
			for c := range g {
				last = last && (c == b || !dominates[c][b] || dominates[c][a])
			}
			if last {
				out[b] = a
			}
		}
	}
	return out
}

// once is a graph with each edge once, whatever their order: no way turns by that.
func once(g [][]int) [][]int {
	out := copied(g)
	for n := range out {
		slices.Sort(out[n])
		out[n] = slices.Compact(out[n])
	}
	return out
}

// toldLoopsOf are the loops, edge by edge and node by node.
func toldLoopsOf(g [][]int) []graph.Loop {
	g = once(g)
	dominates := toldDominates(g)
	var out []graph.Loop
	for head := range g {
		var begins []int
		for n, tos := range g {
			if slices.Contains(tos, head) && dominates[head][n] {
				begins = append(begins, n)
			}
		}
		if begins == nil {
			continue
		}
		loop := graph.Loop{Head: head}
		for n := range g {
			without := reaches(g, n, head)
			if n == head || slices.ContainsFunc(begins, func(b int) bool { return without[b] }) {
				loop.Nodes = append(loop.Nodes, n)
			}
		}
		out = append(out, loop)
	}
	return out
}

// toldFrom counts of each two nodes how often the one goes to the other.
func toldFrom(g [][]int) [][]int {
	out := make([][]int, len(g))
	for to := range g {
		for n, tos := range g {
			for _, m := range tos {
				if m == to {
					out[to] = append(out[to], n)
				}
			}
		}
	}
	return out
}
