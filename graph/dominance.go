package graph

import "slices"

// none stands for a nearest dominator, where there is none.
const none = -1

// dominators are the nearest dominators as far as they are known, and of each node its place in the order.
type dominators struct {
	nearest []int
	place   []int
}

// nearest answers the nearest dominators of a graph that may be, back being its edges turned. What a node hangs on may stand behind it, so that the order is gone over until nothing turns any more.
func nearest(g, back [][]int) []int {
	nodes := order(g)
	d := dominators{slices.Repeat([]int{none}, len(g)), make([]int, len(g))}
	for i, node := range nodes {
		d.place[node] = i
	}
	for turned := true; turned; {
		turned = false
		for _, node := range nodes[1:] {
			if n := d.meetAll(back[node]); n != d.nearest[node] {
				d.nearest[node] = n
				turned = true
			}
		}
	}
	return d.nearest
}

// reached tells whether a node is reached; before all are known, whether it is known to be.
func reached(nearest []int, node int) bool { return node == 0 || nearest[node] != none }

// meetAll answers the first node that the ways from all of these to 0 have in common, as far as they are known.
func (d dominators) meetAll(nodes []int) int {
	first := none
	for _, node := range nodes {
		switch {
		case !reached(d.nearest, node):
		case first == none:
			first = node
		default:
			first = d.meet(first, node)
		}
	}
	return first
}

// meet answers where the ways from a and b to 0 meet. What dominates a node is ahead of it in the order, so that the one of the two that is farther behind goes on.
func (d dominators) meet(a, b int) int {
	for a != b {
		if d.place[a] > d.place[b] {
			a = d.nearest[a]
		} else {
			b = d.nearest[b]
		}
	}
	return a
}
