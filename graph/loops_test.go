package graph_test

import (
	"slices"
	"testing"

	"bellcrank/graph"
)

// P7.3: loops, written out.
func TestP73Loops(t *testing.T) {
	rows := []struct{ g, want string }{
		{"", ""},
		{"1 2,3,3,1", ""}, // the chapter's example: no edge of its ring goes to a node that dominates its beginning
		{"1,2,3,", ""},
		{"1 2,3,3,", ""},
		{"0", "0: 0"},      // a node that goes to itself
		{"1,1 2,", "1: 1"}, // also where others go to it
		{"0 0,", "0: 0"},   // and twice
		{"1,1 1 1 2,0", "0: 0 1 2, 1: 1"},
		{"1,0", "0: 0 1"},
		{"1,0,1", "0: 0 1 2"}, // what is not reached reaches the edge's beginning
		{"1,2,1 3,", "1: 1 2"},
		{"1,2,3,1 4,", "1: 1 2 3"},
		{"1,2 3,1,1 4,", "1: 1 2 3"},       // two edges back to one node
		{"1,2 3,4,4,1 5,", "1: 1 2 3 4"},   // two ways in a loop
		{"1,2,3 1,1 4,", "1: 1 2 3"},       // two edges back from one way
		{"1,2,3 2,1 4,", "1: 1 2 3, 2: 2"}, // within one another
		{"1,2,3,2 4,1 5,", "1: 1 2 3 4, 2: 2 3"},
		{"3,1 4,2 1,2 3,0", "0: 0 1 2 3 4, 1: 1, 2: 2, 3: 3"}, // heads against the order
		{"2,4,1,,3 2", "2: 1 2 4"},                            // Nodes rise, not as they are met
		{"1,2,1 3,4,3 5,", "1: 1 2, 3: 3 4"},                  // beside one another
		{"1 3,2,1 5,4,3 5,", "1: 1 2, 3: 3 4"},
		{"4 3,,,3,4", "3: 3, 4: 4"},
		{"1 2,2,1", ""},             // a ring that is entered at two places has none
		{"1 2,2,1 0", "0: 0 1 2"},   // but the one around it has
		{"1,2 3,3,2 1", "1: 1 2 3"}, // likewise
		{"1 2,2 1,1", "1: 1"},       // and the one within it
		{",1", ""},                  // what is not reached has none
		{",2,1", ""},
		{",2,1 0", ""},                      // also where it goes to what is reached
		{"1,1,1 2", "1: 1"},                 // it reaches no edge's beginning without going through the head
		{"1,2,1,2", "1: 1 2 3"},             // here it does
		{"1,2,1,2,3,0 4,1", "1: 1 2 3 4 5"}, // also over others; what goes to the head alone does not
		{"1,2,1,2 3 4,3 2", "1: 1 2 3 4"},   // a ring of what is not reached
		{"1,2,1,1", "1: 1 2"},               // an edge to the head from what is not reached is not one back
		{"1,2,3 0,2 0", "0: 0 1 2 3, 2: 2 3"},
		{"0 1,1 0", "0: 0 1, 1: 1"},
	}
	for _, r := range rows {
		if have := toldLoops(loops(t, nodes(r.g))); have != r.want {
			t.Errorf("Loops of %s: %s, want %s", r.g, have, r.want)
		}
	}
}

// P7.3: all nodes that may be in one loop, in loops of their own, and in loops within one another.
func TestP73LoopsLong(t *testing.T) {
	ring := row(256)
	ring[255] = []int{0}
	l := loops(t, ring)
	if len(l) != 1 || l[0].Head != 0 || !slices.Equal(l[0].Nodes, upTo(256)) {
		t.Error("Loops of a long ring:", toldLoops(l))
	}
	g := row(256)
	for n := range g {
		g[n] = append([]int{n}, g[n]...)
	}
	l = loops(t, g)
	for n, loop := range l {
		if loop.Head != n || !slices.Equal(loop.Nodes, []int{n}) {
			t.Error("Loops of a long row of nodes that go to themselves:", loop)
		}
	}
	if len(l) != 256 {
		t.Error("Loops of a long row of nodes that go to themselves:", len(l))
	}
	g = row(256)
	for n := range 128 {
		g[255-n] = append(g[255-n], n)
	}
	l = loops(t, g)
	for n, loop := range l {
		if loop.Head != n || !slices.Equal(loop.Nodes, upTo(256)[n:256-n]) {
			t.Error("Loops within one another:", loop)
		}
	}
	if len(l) != 128 {
		t.Error("Loops within one another:", len(l))
	}
}

// P7.3: each small graph, and graphs drawn by chance.
func TestP73All(t *testing.T) {
	met, unreached := 0, 0
	holds := func(g [][]int) {
		have, want := loops(t, g), toldLoopsOf(g)
		if !sameLoops(have, want) {
			t.Errorf("Loops of %s: %s, want %s", toldAll(g), toldLoops(have), toldLoops(want))
		}
		all := reaches(g, 0, -1)
		for _, loop := range want {
			met++
			if slices.ContainsFunc(loop.Nodes, func(n int) bool { return !all[n] }) {
				unreached++
			}
		}
	}
	for count := range 4 {
		smallGraphs(count+1, holds)
	}
	for _, g := range someGraphs(1500) {
		holds(g)
	}
	for count := 1; count <= 127; count += 21 {
		holds(ladder(count))
	}
	if met < 10000 || unreached < 1000 {
		t.Error("the graphs are too much alike:", met, unreached)
	}
}

// P7.6: a Head is one of its Nodes and dominates all that are reached; to each of them but the Head only Nodes go. It is the least such list that has the edges' beginnings.
func TestP76Loops(t *testing.T) {
	for _, g := range someGraphs(1500) {
		all, back := reaches(g, 0, -1), toldFrom(g)
		head := -1
		for _, loop := range loops(t, g) {
			if loop.Head <= head || !rises(loop.Nodes) || !slices.Contains(loop.Nodes, loop.Head) || !all[loop.Head] {
				t.Errorf("%s: a loop behind that of %d: %v", toldAll(g), head, loop)
			}
			head = loop.Head
			rest := reaches(g, 0, head)
			goesBack := false
			for _, n := range loop.Nodes {
				if all[n] && rest[n] {
					t.Errorf("%s: %d does not dominate %d", toldAll(g), head, n)
				}
				if n != head && !subset(back[n], loop.Nodes) {
					t.Errorf("%s: to %d of the loop of %d goes another one", toldAll(g), n, head)
				}
				goesBack = goesBack || all[n] && slices.Contains(g[n], head)
			}
			if !goesBack {
				t.Errorf("%s: no edge of the loop goes back to %d", toldAll(g), head)
			}
		}
	}
}

func rises(l []int) bool {
	for i := range l {
		if i > 0 && l[i] <= l[i-1] {
			return false
		}
	}
	return true
}

func subset(a, b []int) bool {
	return !slices.ContainsFunc(a, func(n int) bool { return !slices.Contains(b, n) })
}

// P7.3: the head of a loop is where it is entered, whatever its number.
func TestP73HeadIsLast(t *testing.T) {
	want := []graph.Loop{{Head: 3, Nodes: []int{1, 2, 3}}}
	if have := loops(t, nodes("3,2,3,1")); !sameLoops(have, want) {
		t.Error("Loops:", have)
	}
}
