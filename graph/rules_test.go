package graph_test

import (
	"slices"
	"strconv"
	"testing"

	"bellcrank/api"
	"bellcrank/graph"
)

// wrongGraphs are graphs that may not be, each by one fault alone.
func wrongGraphs() map[string][][]int {
	l := map[string][][]int{
		"no node":               nil,
		"an empty list":         {},
		"257 nodes":             edgeless(257),
		"257 nodes in a row":    row(257),
		"very many nodes":       edgeless(1 << 20),
		"129 of 0":              {slices.Repeat([]int{0}, 129)},
		"129 of what is not in": {nil, slices.Repeat([]int{0}, 129)},
		"very many of one":      {nil, make([]int, 1<<20)},
	}
	for _, to := range []int{-1 << 63, -2, -1, 3, 4, 256, 1<<63 - 1} {
		name := " goes to " + strconv.Itoa(to)
		l["0"+name] = [][]int{{1, to}, {2}, {1}}
		l["what is reached"+name] = [][]int{{1}, {2}, {1, to}}
		l["what is not reached"+name] = [][]int{{1}, {1}, {to}}
	}
	return l
}

// Of a graph that may not be each call answers ErrArg, and nothing else.
func TestErrArg(t *testing.T) {
	for name, g := range wrongGraphs() {
		if graph.Right(g) || mayBe(g) {
			t.Error("Right of", name)
		}
		if l, why := graph.Order(g); why != api.ErrArg || len(l) > 0 {
			t.Error("Order of", name, l, why)
		}
		if l, why := graph.Nearest(g); why != api.ErrArg || len(l) > 0 {
			t.Error("Nearest of", name, l, why)
		}
		if l, why := graph.Loops(g); why != api.ErrArg || len(l) > 0 {
			t.Error("Loops of", name, l, why)
		}
		if l, why := graph.From(g); why != api.ErrArg || len(l) > 0 {
			t.Error("From of", name, l, why)
		}
	}
}

// R1: graphs drawn by chance, of which some may not be. No call panics, and each answers an error just where Right says no.
func TestR1AnyGraph(t *testing.T) {
	right, wrong := 0, 0
	for seed := range 3000 {
		d := dice(seed)
		g := d.drawn(1+d.roll(12), 4)
		for n := range g {
			for i := range g[n] {
				if d.roll(60) == 0 {
					g[n][i] = []int{-1, len(g), -1 << 63, 1<<63 - 1}[d.roll(4)]
				}
			}
		}
		why := api.ErrArg
		if mayBe(g) {
			why = api.OK
			right++
		} else {
			wrong++
		}
		_, a := graph.Order(g)
		_, b := graph.Nearest(g)
		_, c := graph.Loops(g)
		_, e := graph.From(g)
		if a != why || b != why || c != why || e != why || graph.Right(g) != (why == api.OK) {
			t.Error(toldAll(g), a, b, c, e)
		}
	}
	if right < 500 || wrong < 500 {
		t.Error("the graphs are too much alike:", right, wrong)
	}
}

// large are graphs as large as they may be.
func large() [][][]int {
	d := dice(7)
	full, last := edgeless(256), edgeless(256)
	for n := range full {
		full[n] = upTo(256)[n/2:][:128]
		last[n] = append(slices.Repeat([]int{n}, 127), (n+1)%256)
	}
	return [][][]int{full, last, d.drawn(256, 128), d.mixed(d.near(256, 128)), d.mixed(ladder(127)), row(256), edgeless(256)}
}

// R1: no graph makes a call run without end, as large as it may be, nor a list of any length.
func TestR1Large(t *testing.T) {
	for _, g := range large() {
		if have, want := order(t, g), toldOrder(g); !slices.Equal(have, want) {
			t.Error("Order of a large graph")
		}
		if have, want := nearest(t, g), toldNearest(g); !slices.Equal(have, want) {
			t.Error("Nearest of a large graph")
		}
		if have, want := loops(t, g), toldLoopsOf(g); !sameLoops(have, want) {
			t.Error("Loops of a large graph")
		}
		if have, want := from(t, g), toldFrom(g); !sameLists(have, want) {
			t.Error("From of a large graph")
		}
	}
	list := upTo(1 << 20)
	if graph.Dominates(list, 5, 1<<20-1) || !graph.Dominates(list, 1<<20-1, 1<<20-1) {
		t.Error("Dominates over a long list")
	}
}

// whole shows all that a list can reach, behind its end too.
func whole(l []int) []int { return l[:cap(l)] }

// roomy is a graph whose lists have room behind their ends, with numbers in it that are no nodes.
func roomy(g [][]int) [][]int {
	room := func(l []int) []int { return append(slices.Clone(l), -7, -7, -7, -7, -7)[:len(l)] }
	out := make([][]int, 0, len(g)+3)
	for _, tos := range g {
		out = append(out, room(tos))
	}
	more := append(out, room(nil), room(nil), room(nil))
	return more[:len(out)]
}

// stays calls f, and tells whether the graph and its lists are as they were, their room too.
func stays(g [][]int, f func()) bool {
	before := g[:cap(g)]
	outer := slices.Clone(before)
	inner := copied(outer)
	for n := range inner {
		inner[n] = slices.Clone(whole(outer[n]))
	}
	f()
	for n := range outer {
		same := len(before[n]) == len(outer[n]) && cap(before[n]) == cap(outer[n])
		if !same || !slices.Equal(whole(before[n]), inner[n]) {
			return false
		}
	}
	return true
}

// calls are all calls of a graph, each with its answer as a text, its error ahead, and the answer's lists.
func calls() map[string]func(g [][]int) (string, [][]int) {
	return map[string]func(g [][]int) (string, [][]int){
		"Order": func(g [][]int) (string, [][]int) {
			l, why := graph.Order(g)
			return why.Error() + told(l), [][]int{l}
		},
		"Nearest": func(g [][]int) (string, [][]int) {
			l, why := graph.Nearest(g)
			return why.Error() + told(l), [][]int{l}
		},
		"Loops": func(g [][]int) (string, [][]int) {
			l, why := graph.Loops(g)
			var lists [][]int
			for _, loop := range l {
				lists = append(lists, loop.Nodes)
			}
			return why.Error() + toldLoops(l), lists
		},
		"From": func(g [][]int) (string, [][]int) {
			l, why := graph.From(g)
			return why.Error() + toldAll(l), l
		},
		"Dominates": func(g [][]int) (string, [][]int) {
			text := ""
			for _, list := range g {
				for a := range list {
					if graph.Dominates(list, a, 0) {
						text += told([]int{a}) + " "
					}
				}
			}
			return text, nil
		},
		"Right": func(g [][]int) (string, [][]int) {
			if graph.Right(g) {
				return "yes", nil
			}
			return "no", nil
		},
	}
}

// handed are graphs to hand in, ones that may not be among them.
func handed() [][][]int {
	return append(someGraphs(200), edgeless(257), nodes("1,2"), nodes("1 -1,0"), nodes("1,2,1 3,4,3 5,"))
}

// R4: no call writes into what it was handed, the room of its lists too.
func TestR4NothingIsWritten(t *testing.T) {
	for name, call := range calls() {
		for _, g := range handed() {
			h := roomy(g)
			if !stays(h, func() { call(h) }) {
				t.Errorf("%s turned %s", name, toldAll(g))
			}
		}
	}
}

// spoil turns all that lists can reach, behind their ends too.
func spoil(lists [][]int) {
	for _, l := range lists {
		for i := range whole(l) {
			whole(l)[i] = ^whole(l)[i]
		}
	}
}

// R4: what is answered may be written over: the graph stays, and the next answer is as the first one was.
func TestR4AnswerIsTheCallers(t *testing.T) {
	for name, call := range calls() {
		for _, g := range handed() {
			h := roomy(g)
			var first, again string
			same := stays(h, func() {
				text, lists := call(h)
				first = text
				spoil(lists)
			})
			again, _ = call(h)
			if !same || again != first {
				t.Errorf("%s of %s: %s, and behind that %s", name, toldAll(g), first, again)
			}
		}
	}
}

// R4: what was handed in may be written over: what was answered stays.
func TestR4NothingIsKept(t *testing.T) {
	for name, call := range calls() {
		for _, g := range handed() {
			h := roomy(g)
			first, lists := call(h)
			before := copied(lists)
			spoil(h)
			if !sameLists(lists, before) {
				t.Errorf("%s of %s keeps what it was handed", name, toldAll(g))
			}
			if again, _ := call(g); again != first {
				t.Errorf("%s of %s: %s, and behind that %s", name, toldAll(g), first, again)
			}
		}
	}
}

// R4: no two lists of an answer share memory, their room too: each one keeps what was written all over it.
func TestR4ListsAreApart(t *testing.T) {
	for name, call := range calls() {
		for _, g := range handed() {
			_, lists := call(g)
			for n, l := range lists {
				for i := range whole(l) {
					whole(l)[i] = n
				}
			}
			for n, l := range lists {
				if slices.ContainsFunc(whole(l), func(m int) bool { return m != n }) {
					t.Errorf("%s of %s: the list %d shares memory", name, toldAll(g), n)
				}
			}
		}
	}
}

// R4: Dominates writes nothing into its list, also one that leads out of itself.
func TestR4DominatesWritesNothing(t *testing.T) {
	list := []int{-1, 0, 1, 9, 3, 5, 7, 6, -7, -7}[:8]
	before := slices.Clone(whole(list))
	for a := -2; a < 11; a++ {
		for b := -2; b < 11; b++ {
			graph.Dominates(list, a, b)
		}
	}
	if !slices.Equal(whole(list), before) {
		t.Error("Dominates wrote into its list:", whole(list))
	}
}

// R3: the same calls have the same answers, whatever was called ahead.
func TestR3SameAnswers(t *testing.T) {
	type key struct {
		name string
		n    int
	}
	first := map[key]string{}
	for round := range 3 {
		for name, call := range calls() {
			for n, g := range handed() {
				text, _ := call(g)
				if round > 0 && first[key{name, n}] != text {
					t.Errorf("%s of %s: %s, and behind other calls %s", name, toldAll(g), first[key{name, n}], text)
				}
				first[key{name, n}] = text
			}
		}
	}
}

// R6: of a node that goes nowhere a list that is nil and an empty one are the same.
func TestR6Empty(t *testing.T) {
	for name, call := range calls() {
		for _, g := range handed() {
			empty := copied(g)
			for n := range empty {
				if len(empty[n]) == 0 {
					empty[n] = []int{}
				}
			}
			a, _ := call(g)
			b, _ := call(empty)
			if a != b {
				t.Errorf("%s of %s: %s and %s", name, toldAll(g), a, b)
			}
		}
		a, _ := call(nil)
		b, _ := call([][]int{})
		if a != b {
			t.Errorf("%s of no node: %s and %s", name, a, b)
		}
	}
}
