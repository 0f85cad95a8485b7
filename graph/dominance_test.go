package graph_test

import (
	"slices"
	"testing"

	"bellcrank/graph"
)

// P7.2: the nearest dominators, written out.
func TestP72Nearest(t *testing.T) {
	rows := []struct{ g, want string }{
		{"1 2,3,3,1", "-1 0 0 0"}, // the chapter's example
		{"", "-1"},                // a node alone
		{"0", "-1"},               // one that goes to itself
		{"1,1", "-1 0"},
		{"1,0", "-1 0"},              // an edge back to 0
		{"1 1,2 2,", "-1 0 1"},       // the same one twice
		{"1,2,3,", "-1 0 1 2"},       // a row
		{"3,,1,2", "-1 2 3 0"},       // and one the other way round
		{"1 2,3,3,4,", "-1 0 0 0 3"}, // two ways that meet
		{"1 2,2,", "-1 0 0"},         // a way beside a node
		{"1 2,3,3,4 5,6,6,1", "-1 0 0 0 3 3 3"},
		{"1,2,3,4 2,5 1,", "-1 0 1 2 3 4"},          // rings within one another
		{"1,2,3 2,4 1,5 0,", "-1 0 1 2 3 4"},        // likewise, each one's beginning within the last one
		{"1,2 5,3,4,3 1,", "-1 0 1 2 3 1"},          // likewise, left at the outer one's beginning
		{"1 2,2,1", "-1 0 0"},                       // a ring that is entered at two places
		{"1 2,2,1 3,", "-1 0 0 2"},                  // likewise, left at one of them
		{"1 2,3,3 4,4,3 5,", "-1 0 0 0 0 4"},        // entered at two places from two ways
		{"1,2 3,3,2 4,", "-1 0 1 1 3"},              // entered at two places behind a node
		{"1 2,3,4,4 5,3 5,6,", "-1 0 0 0 0 0 5"},    // a ladder
		{"2 1,3,4,5 4,6 3,6,5 2", "-1 0 0 0 0 0 0"}, // likewise, with an edge back
		{",", "-1 -1"},                              // what is not reached has none
		{",0 1 2,1", "-1 -1 -1"},                    // also where it goes to what is reached
		{"2,2,", "-1 -1 0"},                         // what is not reached is no way to a node
		{"1,2,,2 1,3", "-1 0 1 -1 -1"},
		{"1 2,3,3,,3 5,4", "-1 0 0 0 -1 -1"},
		{"3,2,3,1", "-1 3 1 0"},
	}
	for _, r := range rows {
		if have := told(nearest(t, nodes(r.g))); have != r.want {
			t.Errorf("Nearest of %s: %s, want %s", r.g, have, r.want)
		}
	}
}

// P7.2: of long rows, forward and backward, with one way past all of it.
func TestP72NearestLong(t *testing.T) {
	g := row(256)
	want := append([]int{-1}, upTo(255)...)
	if have := nearest(t, g); !slices.Equal(have, want) {
		t.Error("Nearest of a long row:", have)
	}
	g[0] = append(g[0], 255)
	want[255] = 0
	if have := nearest(t, g); !slices.Equal(have, want) {
		t.Error("Nearest of a long row with a way past it:", have)
	}
	for n := range 128 {
		g[255] = append(g[255], 2*n+1)
	}
	for n := 1; n < 256; n++ {
		want[n] = n - 1
		if n%2 == 1 {
			want[n] = 0
		}
	}
	if have := nearest(t, g); !slices.Equal(have, want) {
		t.Error("Nearest of a long row that is entered at each second node:", have)
	}
}

// ladder has two rows side by side, each node of which goes to the one ahead of it, too, and across.
func ladder(count int) [][]int {
	g := edgeless(2*count + 1)
	g[0] = []int{1, 2*count - 1, 2, 2 * count}
	for n := 1; n <= 2*count; n++ {
		for _, to := range []int{n - 2, n + 2, n ^ 1} {
			if to >= 1 && to <= 2*count {
				g[n] = append(g[n], to)
			}
		}
	}
	return g
}

// P7.2: graphs in which much must be gone over again.
func TestP72NearestTangled(t *testing.T) {
	for count := 1; count <= 127; count += 7 {
		d := dice(count)
		for _, g := range [][][]int{ladder(count), d.mixed(ladder(count)), d.mixed(d.near(2*count, 128)), d.near(2*count+1, 3), d.drawn(2*count, 128)} {
			if have, want := nearest(t, g), toldNearest(g); !slices.Equal(have, want) {
				t.Errorf("Nearest of %s: %v, want %v", toldAll(g), have, want)
			}
		}
	}
}

// dominatesAs holds Dominates of each two places, and of what is no place, against what is told.
func dominatesAs(t *testing.T, nearest []int, told func(a, b int) bool) {
	t.Helper()
	others := []int{-1 << 63, -257, -2, -1, len(nearest), len(nearest) + 1, 256, 1 << 32, 1<<63 - 1}
	for a := range nearest {
		for b := range nearest {
			if have := graph.Dominates(nearest, a, b); have != told(a, b) {
				t.Errorf("Dominates(%v, %d, %d): %v", nearest, a, b, have)
			}
		}
		for _, b := range others {
			if (b < 0 || b >= len(nearest)) && (graph.Dominates(nearest, a, b) || graph.Dominates(nearest, b, a) || graph.Dominates(nearest, b, b)) {
				t.Errorf("Dominates(%v, ..) of %d, which is no place, and %d", nearest, b, a)
			}
		}
	}
}

// P7.2, P7.5: over what Nearest answers, Dominates tells what each way goes through. To it each node dominates itself, also what is not reached.
func TestP72DominatesOverNearest(t *testing.T) {
	for _, g := range someGraphs(500) {
		dominates := toldDominates(g)
		dominatesAs(t, nearest(t, g), func(a, b int) bool { return a == b || dominates[a][b] })
	}
	long := nearest(t, row(256))
	dominatesAs(t, long, func(a, b int) bool { return a <= b })
}

// P7.2: over any other list.
func TestP72DominatesOverAny(t *testing.T) {
	rows := []struct {
		nearest string
		yes     [][2]int
	}{
		{"-1 0 0 0", [][2]int{{0, 1}, {0, 2}, {0, 3}}},
		{"1 0", [][2]int{{0, 1}, {1, 0}}}, // goes round
		{"0", nil},                        // at once
		{"1 2 0 0", [][2]int{{1, 0}, {2, 0}, {2, 1}, {0, 1}, {0, 2}, {1, 2}, {0, 3}, {1, 3}, {2, 3}}}, // goes round behind a beginning
		{"1 1", [][2]int{{1, 0}}},
		{"3 0 1", [][2]int{{0, 1}, {0, 2}, {1, 2}}},       // leads out of the list, past its end
		{"-5 0 1", [][2]int{{0, 1}, {0, 2}, {1, 2}}},      // and below 0
		{"256 0 1000 2", [][2]int{{0, 1}, {2, 3}}},        // far out
		{"-9223372036854775808 9223372036854775807", nil}, // and as far as there is
		{"2 -1 1", [][2]int{{2, 0}, {1, 0}, {1, 2}}},      // rises
		{"", nil},
	}
	for _, r := range rows {
		dominatesAs(t, numbers(r.nearest), func(a, b int) bool { return a == b || slices.Contains(r.yes, [2]int{a, b}) })
	}
}

// P7.2: of no list nothing is a place.
func TestP72DominatesOverNone(t *testing.T) {
	for _, a := range []int{-1, 0, 1, 256} {
		if graph.Dominates(nil, a, a) || graph.Dominates([]int{}, a, 0) || graph.Dominates(nil, 0, a) {
			t.Error("Dominates of", a, "over no list")
		}
	}
}

// P7.2: nearest is gone by 256 times, and not once more.
func TestP72DominatesFar(t *testing.T) {
	list := append([]int{-1}, upTo(999)...)
	for a := range 600 {
		for _, steps := range []int{0, 1, 2, 127, 254, 255, 256, 257, 258, 300, 399} {
			want := steps <= 256
			if have := graph.Dominates(list, a, a+steps); have != want {
				t.Errorf("Dominates over %d times nearest: %v", steps, have)
			}
			if steps > 0 && graph.Dominates(list, a+steps, a) {
				t.Errorf("Dominates over %d times nearest, the wrong way", steps)
			}
		}
	}
	ring := append(upTo(1000)[1:], 0)
	for _, steps := range []int{255, 256, 257, 999} {
		if have, want := graph.Dominates(ring, steps, 0), steps <= 256; have != want {
			t.Errorf("Dominates over %d times nearest of a ring: %v", steps, have)
		}
	}
}

// P7.2: lists drawn by chance, which go round, and lead out of the list.
func TestP72DominatesDrawn(t *testing.T) {
	for seed := range 500 {
		d := dice(seed)
		list := make([]int, 1+d.roll(12))
		for n := range list {
			list[n] = d.roll(len(list)+2) - 1
		}
		dominatesAs(t, list, func(a, b int) bool {
			for times := 0; times <= 256 && b >= 0 && b < len(list); times++ {
				if a == b {
					return true
				}
				b = list[b]
			}
			return false
		})
	}
}

// P7.2: each small graph, and graphs drawn by chance.
func TestP72All(t *testing.T) {
	holds := func(g [][]int) {
		if have, want := nearest(t, g), toldNearest(g); !slices.Equal(have, want) {
			t.Errorf("Nearest of %s: %v, want %v", toldAll(g), have, want)
		}
	}
	for count := range 4 {
		smallGraphs(count+1, holds)
	}
	for _, g := range someGraphs(1500) {
		holds(g)
	}
}

// P7.5: a node dominates another one just if without it that is not reached: by Nearest, and the ways alone.
func TestP75Without(t *testing.T) {
	for _, g := range someGraphs(500) {
		list := nearest(t, g)
		all := reaches(g, 0, -1)
		for a := range g {
			rest := reaches(g, 0, a)
			for b := range g {
				if !all[a] || !all[b] {
					if a != b && graph.Dominates(list, a, b) {
						t.Errorf("%s: %d or %d is not reached", toldAll(g), a, b)
					}
				} else if have, want := graph.Dominates(list, a, b), !rest[b]; have != want {
					t.Errorf("%s: %d dominates %d: %v", toldAll(g), a, b, have)
				}
			}
		}
	}
}
