package graph_test

import (
	"fmt"
	"slices"
	"strconv"
	"strings"
	"testing"

	"bellcrank/api"
	"bellcrank/graph"
)

// The calls have just these types.
var (
	_ func([][]int) bool                      = graph.Right
	_ func([][]int) ([]int, api.Errno)        = graph.Order
	_ func([][]int) ([]int, api.Errno)        = graph.Nearest
	_ func([]int, int, int) bool              = graph.Dominates
	_ func([][]int) ([]graph.Loop, api.Errno) = graph.Loops
	_ func([][]int) ([][]int, api.Errno)      = graph.From
	_                                         = graph.Loop{Head: int(0), Nodes: []int(nil)}
)

// numbers reads a list.
func numbers(text string) []int {
	var l []int
	for _, word := range strings.Fields(text) {
		n, err := strconv.Atoi(word)
		if err != nil {
			panic(err)
		}
		l = append(l, n)
	}
	return l
}

// nodes reads a graph: of each node, up to a comma, where it goes.
func nodes(text string) [][]int {
	var g [][]int
	for _, tos := range strings.Split(text, ",") {
		g = append(g, numbers(tos))
	}
	return g
}

// edgeless is a graph of so many nodes that go nowhere.
func edgeless(count int) [][]int { return make([][]int, count) }

// row is a graph of so many nodes, each of which goes to the next one.
func row(count int) [][]int {
	g := edgeless(count)
	for n := range count - 1 {
		g[n] = []int{n + 1}
	}
	return g
}

// upTo are the numbers from 0 on, so many.
func upTo(count int) []int {
	var l []int
	for n := range count {
		l = append(l, n)
	}
	return l
}

// told writes a list as numbers reads it.
func told(l []int) string { return strings.Trim(fmt.Sprint(l), "[]") }

// toldAll writes lists as nodes reads a graph.
func toldAll(g [][]int) string {
	var parts []string
	for _, l := range g {
		parts = append(parts, told(l))
	}
	return strings.Join(parts, ",")
}

// toldLoops writes loops: each one's head, a colon, and its nodes.
func toldLoops(l []graph.Loop) string {
	var parts []string
	for _, loop := range l {
		parts = append(parts, strconv.Itoa(loop.Head)+": "+told(loop.Nodes))
	}
	return strings.Join(parts, ", ")
}

func copied(g [][]int) [][]int {
	out := slices.Clone(g)
	for n := range out {
		out[n] = slices.Clone(out[n])
	}
	return out
}

func sameLists(a, b [][]int) bool { return slices.EqualFunc(a, b, slices.Equal) }

func sameLoops(a, b []graph.Loop) bool {
	return slices.EqualFunc(a, b, func(x, y graph.Loop) bool { return x.Head == y.Head && slices.Equal(x.Nodes, y.Nodes) })
}

// order is what Order answers of a graph that may be; nearest, loops and from are so, too.
func order(t *testing.T, g [][]int) []int {
	t.Helper()
	l, why := graph.Order(g)
	passes(t, "Order", g, why)
	return l
}

func nearest(t *testing.T, g [][]int) []int {
	t.Helper()
	l, why := graph.Nearest(g)
	passes(t, "Nearest", g, why)
	return l
}

func loops(t *testing.T, g [][]int) []graph.Loop {
	t.Helper()
	l, why := graph.Loops(g)
	passes(t, "Loops", g, why)
	return l
}

func from(t *testing.T, g [][]int) [][]int {
	t.Helper()
	l, why := graph.From(g)
	passes(t, "From", g, why)
	return l
}

func passes(t *testing.T, call string, g [][]int, why api.Errno) {
	t.Helper()
	if why != api.OK {
		t.Fatalf("%s answers %d of %s", call, why, toldAll(g))
	}
}

// dice make numbers that look like chance, and are the same ones each time.
type dice uint64

// roll is one of the numbers below n.
func (d *dice) roll(n int) int {
	*d = *d*6364136223846793005 + 1442695040888963407
	return int(uint64(*d)>>33) % n
}

// drawn is a graph of so many nodes, each of which goes to at most most.
func (d *dice) drawn(count, most int) [][]int {
	g := edgeless(count)
	for n := range g {
		for range d.roll(most + 1) {
			g[n] = append(g[n], d.roll(count))
		}
	}
	return g
}

// near is one whose nodes go to ones beside them, so that ways are long and loops lie within one another.
func (d *dice) near(count, most int) [][]int {
	g := edgeless(count)
	for n := range g {
		for range d.roll(most) + 1 {
			to := n + 1 + d.roll(3)
			if d.roll(3) == 0 {
				to = n - d.roll(8)
			}
			g[n] = append(g[n], min(max(to, 0), count-1))
		}
	}
	return g
}

// mixed changes all numbers of nodes but 0 by chance.
func (d *dice) mixed(g [][]int) [][]int {
	to := upTo(len(g))
	for n := len(to) - 1; n > 1; n-- {
		other := 1 + d.roll(n)
		to[n], to[other] = to[other], to[n]
	}
	out := edgeless(len(g))
	for n, tos := range g {
		for _, m := range tos {
			out[to[n]] = append(out[to[n]], to[m])
		}
	}
	return out
}

// someGraphs are graphs drawn by chance: small ones, ones of which much is not reached, and large ones.
func someGraphs(count int) [][][]int {
	var l [][][]int
	for seed := range count {
		d := dice(seed)
		l = append(l, d.drawn(1+d.roll(9), 3), d.mixed(d.near(2+d.roll(30), 2)))
		if seed%20 == 0 {
			l = append(l, d.drawn(20+d.roll(40), 2), d.near(60+d.roll(40), 2), d.drawn(1+d.roll(30), 128))
		}
	}
	return l
}

// smallGraphs calls f with each graph of so many nodes that go to at most two each. It must not keep what it is handed.
func smallGraphs(count int, f func(g [][]int)) {
	lists := [][]int{nil}
	for a := range count {
		lists = append(lists, []int{a})
		for b := range count {
			lists = append(lists, []int{a, b})
		}
	}
	g := edgeless(count)
	var grow func(n int)
	grow = func(n int) {
		if n == count {
			f(g)
			return
		}
		for _, l := range lists {
			g[n] = l
			grow(n + 1)
		}
	}
	grow(0)
}
