package graph_test

import (
	"slices"
	"testing"

	"bellcrank/graph"
)

// P7.1: how many nodes a graph may have.
func TestP71RightNodes(t *testing.T) {
	for count, want := range map[int]bool{0: false, 1: true, 2: true, 255: true, 256: true, 257: false, 258: false, 100000: false} {
		if have := graph.Right(edgeless(count)); have != want {
			t.Errorf("Right of %d nodes that go nowhere: %v", count, have)
		}
		if have := graph.Right(row(count)[:count]); count > 0 && have != want {
			t.Errorf("Right of %d nodes in a row: %v", count, have)
		}
	}
	if graph.Right(nil) || graph.Right([][]int{}) {
		t.Error("Right of no node")
	}
	if !graph.Right([][]int{nil}) || !graph.Right([][]int{{}}) || !graph.Right([][]int{{0}}) {
		t.Error("one node may be")
	}
}

// P7.1: to how many nodes one may go, reached or not.
func TestP71RightEdges(t *testing.T) {
	for _, node := range []int{0, 1, 2} {
		for count, want := range map[int]bool{0: true, 127: true, 128: true, 129: false, 130: false, 1000: false} {
			g := nodes("1,,")
			g[node] = slices.Repeat([]int{2}, count)
			if have := graph.Right(g); have != want {
				t.Errorf("Right where the node %d goes to %d: %v", node, count, have)
			}
			spread := edgeless(256)
			for to := range count {
				spread[node] = append(spread[node], to%256)
			}
			if have := graph.Right(spread); have != want {
				t.Errorf("Right where the node %d goes to %d others: %v", node, count, have)
			}
		}
	}
	full := edgeless(256)
	for n := range full {
		full[n] = upTo(256)[n/2:][:128]
	}
	if !graph.Right(full) {
		t.Error("256 nodes that go to 128 each may be")
	}
}

// P7.1: to which nodes one may go, reached or not, and at each place of its list.
func TestP71RightPlaces(t *testing.T) {
	for _, count := range []int{1, 2, 3, 255, 256} {
		for _, node := range []int{0, count / 2, count - 1} {
			for _, to := range []int{-1 << 63, -257, -256, -1, 0, count - 1, count, count + 1, 256, 257, 1 << 32, 1<<63 - 1} {
				want := to >= 0 && to < count
				for place := range 3 {
					g := edgeless(count)
					g[node] = make([]int, 3)
					g[node][place] = to
					if have := graph.Right(g); have != want {
						t.Errorf("Right of %d nodes, of which %d goes to %d: %v", count, node, to, have)
					}
				}
			}
		}
	}
}

// P7.1: the order, written out.
func TestP71Order(t *testing.T) {
	rows := []struct{ g, want string }{
		{"1 2,3,3,1", "0 2 1 3"},               // the chapter's example
		{"", "0"},                              // a node alone
		{"0", "0"},                             // one that goes to itself
		{"0 0,0", "0"},                         // what is not reached is left out
		{"2,0 2,0,1 3", "0 2"},                 // also where it goes to what is reached
		{",2,3,1", "0"},                        // also in a ring of its own
		{"1 1,2 2 1,2", "0 1 2"},               // the same one twice
		{"1 2,,", "0 2 1"},                     // the one that was met first was done first
		{"2 1,,", "0 1 2"},                     // and the other way round
		{"1 2 1,,", "0 2 1"},                   // one that comes again counts where it was met
		{"1 2,2,", "0 1 2"},                    // done behind what it goes to
		{"2 1,,1", "0 2 1"},                    // likewise
		{"1 2,2,1", "0 1 2"},                   // a ring is entered where it is met first
		{"2 1,2,1", "0 2 1"},                   // likewise
		{"1 2 3,4,4,4,5,", "0 3 2 1 4 5"},      // three ways side by side
		{"3 2 1,4,4,4,5,", "0 1 2 3 4 5"},      // likewise
		{"1 5,2 4,3,,3,4 6,", "0 5 6 1 4 2 3"}, // a walk goes down as far as there is a way
		{"5 1,4 2,3,,3,6 4,", "0 1 2 5 4 3 6"},
		{"1,2,0 3,1 4,2", "0 1 2 3 4"}, // edges back
		{"4,0,1,2,3", "0 4 3 2 1"},     // a ring
		{"0 1 2,0 1 2,0 1 2", "0 1 2"}, // all go to all
		{"2 1 0,2 1 0,2 1 0", "0 2 1"},
	}
	for _, r := range rows {
		if have := told(order(t, nodes(r.g))); have != r.want {
			t.Errorf("the order of %s: %s, want %s", r.g, have, r.want)
		}
	}
}

// P7.1: the order of a row of all nodes that may be, and of one the other way round.
func TestP71OrderLong(t *testing.T) {
	if have := order(t, row(256)); !slices.Equal(have, upTo(256)) {
		t.Error("the order of a long row:", have)
	}
	g := edgeless(256)
	want := []int{0}
	g[0] = []int{255}
	for n := 255; n > 0; n-- {
		g[n] = []int{n - 1}
		want = append(want, n)
	}
	if have := order(t, g); !slices.Equal(have, want) {
		t.Error("the order of a long row backward:", have)
	}
}

// P7.1: of a node that goes to 128 others, one behind the other.
func TestP71OrderWide(t *testing.T) {
	g := edgeless(200)
	g[0] = upTo(129)[1:]
	want := upTo(129)
	slices.Reverse(want[1:])
	if have := order(t, g); !slices.Equal(have, want) {
		t.Error("the order of a node that goes to many:", have)
	}
	slices.Reverse(g[0])
	if have := order(t, g); !slices.Equal(have, upTo(129)) {
		t.Error("the order of a node that goes to many, the last one first:", have)
	}
}

// P7.1: From, written out.
func TestP71From(t *testing.T) {
	rows := []struct{ g, want string }{
		{"1 2,3,3,1", ",0 3,0,1 2"}, // the chapter's example
		{"", ""},                    // no edge
		{"0", "0"},                  // to itself
		{"0 0 0,0", "0 0 0 1,"},     // as often as it does
		{"1 0 1 0 1,1", "0 0,0 0 0 1"},
		{"2,2,", ",,0 1"},
		{"2 2,2,2 2", ",,0 0 1 2 2"}, // rising, one as often as it does
		{",0,0 1", "1 2,2,"},         // from what is not reached
		{",2,1,3", ",2,1,3"},
		{"0 1 2,0 1 2,0 1 2", "0 1 2,0 1 2,0 1 2"},
		{"2 1 0,2 1 0,2 1 0", "0 1 2,0 1 2,0 1 2"},
	}
	for _, r := range rows {
		if have := toldAll(from(t, nodes(r.g))); have != r.want {
			t.Errorf("From of %s: %s, want %s", r.g, have, r.want)
		}
	}
	g := edgeless(256)
	for n := range g {
		g[n] = slices.Repeat([]int{255}, 128)
	}
	l := from(t, g)
	for n, tos := range l {
		if n < 255 && len(tos) > 0 {
			t.Error("From has nodes that go to", n)
		}
	}
	if len(l) != 256 || len(l[255]) != 256*128 || !slices.IsSorted(l[255]) {
		t.Error("From of all edges to one node")
	}
}

// P7.1: each small graph, and graphs drawn by chance.
func TestP71All(t *testing.T) {
	holds := func(g [][]int) {
		if !graph.Right(g) {
			t.Fatal("may be:", toldAll(g))
		}
		if have, want := order(t, g), toldOrder(g); !slices.Equal(have, want) {
			t.Errorf("the order of %s: %v, want %v", toldAll(g), have, want)
		}
		if have, want := from(t, g), toldFrom(g); !sameLists(have, want) {
			t.Errorf("From of %s: %v, want %v", toldAll(g), have, want)
		}
	}
	for count := range 4 {
		smallGraphs(count+1, holds)
	}
	for _, g := range someGraphs(2000) {
		holds(g)
	}
}

// P7.4: each node stands behind all others that dominate it, 0 first, and just what is reached stands there, once.
func TestP74Order(t *testing.T) {
	for _, g := range someGraphs(1000) {
		place := map[int]int{}
		l := order(t, g)
		for i, n := range l {
			place[n] = i
		}
		if l[0] != 0 || len(place) != len(l) {
			t.Errorf("the order of %s: %v", toldAll(g), l)
		}
		dominates := toldDominates(g)
		for n, is := range reaches(g, 0, -1) {
			if _, there := place[n]; there != is {
				t.Errorf("the order of %s: %v: %d is there: %v", toldAll(g), l, n, there)
			}
			for m := range g {
				if m != n && dominates[m][n] && place[m] >= place[n] {
					t.Errorf("the order of %s: %v: %d dominates %d", toldAll(g), l, m, n)
				}
			}
		}
	}
}
