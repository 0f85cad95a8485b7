package ssa_test

import (
	"math"
	"slices"
	"testing"

	"bellcrank/api"
	"bellcrank/ssa"
)

// anyFn is a function of any Kinds, numbers and lists.
func (d *dice) anyFn() api.Fn {
	number := func() int {
		if d.one(20) {
			return []int{math.MinInt, math.MaxInt, 1 << 32, -1 << 32, 4096}[d.roll(5)]
		}
		return d.roll(14) - 3
	}
	list := func(most int) []int {
		var l []int
		for range d.roll(most + 1) {
			l = append(l, number())
		}
		return l
	}
	f := api.Fn{Sig: api.Sig{In: list(3), Out: list(12)}, Types: list(9)}
	for range d.roll(6) {
		b := api.Block{Params: list(3), Term: api.Term{Kind: number(), Arg: number(), Args: list(3)}}
		for range d.roll(5) {
			b.Code = append(b.Code, api.Ins{Op: number(), N: uint64(number()), Args: list(4), Outs: list(3)})
		}
		for range d.roll(4) {
			b.Term.To = append(b.Term.To, api.Edge{To: number(), Args: list(3)})
		}
		f.Blocks = append(f.Blocks, b)
	}
	return f
}

// some are functions that may be, and any others.
func some(count int) []api.Fn {
	l := append(mayBe(count), api.Fn{}, example(), ends(), chain(5), chain(300))
	for seed := range count {
		d := dice(seed)
		l = append(l, d.anyFn(), d.anyFn(), d.spoiled(l[seed]))
	}
	return l
}

// askedIn are the places of a function in which it asks for values.
func askedIn(f *api.Fn) []*int {
	var l []*int
	for b := range f.Blocks {
		for i := range f.Blocks[b].Code {
			for n := range f.Blocks[b].Code[i].Args {
				l = append(l, &f.Blocks[b].Code[i].Args[n])
			}
		}
		t := &f.Blocks[b].Term
		for n := range t.Args {
			l = append(l, &t.Args[n])
		}
		for i := range t.To {
			for n := range t.To[i].Args {
				l = append(l, &t.To[i].Args[n])
			}
		}
		if t.Kind == 2 || t.Kind == 3 {
			l = append(l, &t.Arg)
		}
	}
	return l
}

// P8.2: Succ, by hand: all To, whatever the Kind, and whatever they are.
func TestP82Succ(t *testing.T) {
	f := fn("i>", "i", "0 | tick | table 0 2 1 2/| | br 2/| | trap")
	want := [][]int{{2, 1, 2}, {2}, nil}
	if have := ssa.Succ(f); !equal(have, want) {
		t.Error("Succ:", have)
	}
	for _, kind := range []int{-1, 0, 1, 2, 3, 4, 5, 6, math.MinInt} {
		f.Blocks[0].Term.Kind, f.Blocks[2].Term.Kind = kind, kind
		f.Blocks[2].Term.To = []api.Edge{{To: 0}, {To: -1, Args: []int{9}}, {To: 3}, {To: math.MaxInt}, {To: math.MinInt}, {To: 0}}
		want[2] = []int{0, -1, 3, math.MaxInt, math.MinInt, 0}
		if have := ssa.Succ(f); !equal(have, want) {
			t.Error("Succ with the Kind", kind, have)
		}
	}
	if have := ssa.Succ(api.Fn{}); len(have) != 0 {
		t.Error("Succ of nothing:", have)
	}
	if have := ssa.Succ(chain(1)); len(have) != 1 || len(have[0]) != 0 {
		t.Error("Succ of one block:", have)
	}
}

// P8.2: Count, by hand.
func TestP82Count(t *testing.T) {
	for text, want := range map[string]int{
		"| | trap": 0, "| tick | trap": 1, "| tick; const = 0; 7b 5 = 9 | br 1/ | | trap/ | 0; ffff | br 7": 5,
	} {
		if have := ssa.Count(fn(">", "i", text)); have != want {
			t.Error("Count:", have, "and not", want)
		}
	}
	if have := ssa.Count(api.Fn{}); have != 0 {
		t.Error("Count of nothing:", have)
	}
}

// P8.2: Used, by hand.
func TestP82Used(t *testing.T) {
	rows := []struct {
		what, text string
		used       []int
	}{
		{"nothing", "0 1 | tick; const = 2; 7 = 3 | trap", nil},
		{"an instruction's Args", "| 6a 1 3 = 2; 0 4 4 4 | trap", []int{1, 3, 4}},
		{"all instructions' Args", "| 6a 1; 6a 2 | br 1/ | 6a 5 | trap", []int{1, 2, 5}},
		{"an end's Args", "| | ret 0 5", []int{0, 5}},
		{"an edge's Args", "| | br 1(3)", []int{3}},
		{"all edges' Args", "| | table 0 1(3,2) 2() 9(4)", []int{0, 2, 3, 4}},
		{"an Arg of EndIf", "| | if 2 1 1", []int{2}},
		{"an Arg of EndTable", "| | table 5 1 1", []int{5}},
		{"itself", "| 6a 3 = 3 | trap", []int{3}},
		{"a block's own Params", "4 5 | | br 0(5,4)", []int{4, 5}},
		{"none that there are", "| 6a -1 6 7 | ret 2048 9223372036854775807 -9223372036854775808", nil},
		{"some that there are", "| 6a -1 2 6 | ret 7 3", []int{2, 3}},
	}
	for _, r := range rows {
		want := make([]bool, 6)
		for _, v := range r.used {
			want[v] = true
		}
		if have := ssa.Used(fn(">", "ililxx", r.text)); !slices.Equal(have, want) {
			t.Error(r.what, have)
		}
	}
	if have := ssa.Used(fn(">", "", "| 6a 0 1 | ret 0")); len(have) > 0 {
		t.Error("Used without values:", have)
	}
}

// P8.2: of an Arg Used and Replace take note in an EndIf and an EndTable alone; of the rest in all Kinds.
func TestP82Kinds(t *testing.T) {
	for _, kind := range []int{math.MinInt, -1, 0, 1, 2, 3, 4, 5, 6, 1<<32 + 2, math.MaxInt} {
		f := api.Fn{Types: types("iiii"), Blocks: []api.Block{{
			Term: api.Term{Kind: kind, Arg: 1, To: []api.Edge{{To: 2, Args: []int{2}}}, Args: []int{3}},
		}}}
		picks := kind == 2 || kind == 3
		if have := ssa.Used(f); !slices.Equal(have, []bool{false, picks, true, true}) {
			t.Error("Used with the Kind", kind, have)
		}
		want := clone(f)
		want.Blocks[0].Term.To[0].Args[0], want.Blocks[0].Term.Args[0] = 12, 13
		if picks {
			want.Blocks[0].Term.Arg = 11
		}
		if have := ssa.Replace(f, []int{10, 11, 12, 13}); !equal(have, want) {
			t.Error("Replace with the Kind", kind, told(have))
		}
	}
}

// P8.2: Replace, by hand.
func TestP82Replace(t *testing.T) {
	rows := []struct {
		what, text string
		to         []int
		want       string
	}{
		{"by nothing", "0 | 6a 0 1 = 2 | if 0 1(1) 2", nil, "0 | 6a 0 1 = 2 | if 0 1(1) 2"},
		{"by an empty list", "0 | 6a 0 1 = 2 | ret 0", []int{}, "0 | 6a 0 1 = 2 | ret 0"},
		{"all that is asked for", "0 | 6a 0 1 = 2 | if 2 1(0,1) 2(2)", []int{5, 6, 7}, "0 | 6a 5 6 = 2 | if 7 1(5,6) 2(7)"},
		{"a shorter list", "0 | 6a 0 1 = 2 | if 2 1(0,1) 2(2)", []int{5}, "0 | 6a 5 1 = 2 | if 2 1(5,1) 2(2)"},
		{"once", "| 6a 0 1 2 | ret 2 1 0", []int{1, 2, 0}, "| 6a 1 2 0 | ret 0 2 1"},
		{"by what is none", "| 6a 0 1 | ret 1 0", []int{-1, 9223372036854775807}, "| 6a -1 9223372036854775807 | ret 9223372036854775807 -1"},
		{"what is none", "| 6a -1 3 | ret 2 -9223372036854775808", []int{7, 8, 9}, "| 6a -1 3 | ret 9 -9223372036854775808"},
		{"no Outs and Params", "0 1 | 6a = 0 1 | trap", []int{5, 6}, "0 1 | 6a = 0 1 | trap"},
		{"no numbers of blocks", "| | table 1 1(1) 0 2(0)", []int{5, 6}, "| | table 6 1(6) 0 2(5)"},
		{"no Arg of others", "| | br 1(1)/ | | ret 1/ | | trap", []int{5, 6}, "| | br 1(6)/ | | ret 6/ | | trap"},
		{"no Op and N", "| 1#1 1 | trap", []int{5, 6}, "| 1#1 6 | trap"},
	}
	for _, r := range rows {
		f, want := fn("il>i", "iii", r.text), fn("il>i", "iii", r.want)
		if have := ssa.Replace(f, r.to); !equal(have, want) {
			t.Error(r.what, told(have))
		}
	}
}

// P8.2: Succ, Count, Used and Replace of functions that may be and any others.
func TestP82Any(t *testing.T) {
	for seed, f := range some(400) {
		d := dice(seed)
		var succ [][]int
		count := 0
		for _, b := range f.Blocks {
			var l []int
			for _, e := range b.Term.To {
				l = append(l, e.To)
			}
			succ = append(succ, l)
			for range b.Code {
				count++
			}
		}
		if have := ssa.Succ(f); !equal(have, succ) {
			t.Error("Succ:", have, told(f))
		}
		if have := ssa.Count(f); have != count {
			t.Error("Count:", have, told(f))
		}
		used := make([]bool, len(f.Types))
		for _, place := range askedIn(&f) {
			if *place >= 0 && *place < len(used) {
				used[*place] = true
			}
		}
		if have := ssa.Used(f); !slices.Equal(have, used) {
			t.Error("Used:", have, told(f))
		}
		for _, to := range [][]int{nil, {}, {7}, {-5, 3}, d.shuffled(len(f.Types), 0), d.shuffled(d.roll(len(f.Types)+1), 0)} {
			want := clone(f)
			for _, place := range askedIn(&want) {
				if *place >= 0 && *place < len(to) {
					*place = to[*place]
				}
			}
			if have := ssa.Replace(f, to); !equal(have, want) {
				t.Error("Replace:", told(have), told(f), to)
			}
		}
	}
}

// long are functions each of which has one list of so many elements, but for the instructions, which are so many in all.
func long(count int) map[string]api.Fn {
	l := make([]int, count)
	ins := func(in api.Ins) api.Fn { return api.Fn{Blocks: []api.Block{{}, {Code: []api.Ins{tick, in}}}} }
	end := func(t api.Term) api.Fn { return api.Fn{Blocks: []api.Block{{}, {Term: t}}} }
	code := api.Fn{Blocks: make([]api.Block, 3)}
	for i := range count {
		code.Blocks[i%3].Code = append(code.Blocks[i%3].Code, tick)
	}
	return map[string]api.Fn{
		"In":              {Sig: api.Sig{In: l}},
		"Out":             {Sig: api.Sig{Out: l}},
		"Types":           {Types: l},
		"Blocks":          {Blocks: make([]api.Block, count)},
		"Params":          {Blocks: []api.Block{{}, {Params: l}}},
		"Code":            {Blocks: []api.Block{{}, {Code: make([]api.Ins, count)}}},
		"Args":            ins(api.Ins{Args: l}),
		"Outs":            ins(api.Ins{Outs: l}),
		"To":              end(api.Term{To: make([]api.Edge, count)}),
		"an edge's Args":  end(api.Term{To: []api.Edge{{}, {Args: l}}}),
		"an end's Args":   end(api.Term{Args: l}),
		"instructions":    code,
		"all of it, even": {Sig: api.Sig{In: l, Out: l}, Types: l, Blocks: []api.Block{{Params: l, Term: api.Term{Args: l}}}},
	}
}

// P8.2: lists of 4096 elements and of one more; 4096 instructions and one more.
func TestP82Long(t *testing.T) {
	for what, f := range long(4096) {
		if len(ssa.Succ(f)) != len(f.Blocks) || len(ssa.Used(f)) != len(f.Types) {
			t.Error("Succ or Used does not look at 4096 of", what)
		}
		if have := ssa.Replace(f, nil); !equal(have, f) || !ssa.Same(f, f) || !ssa.Same(f, have) {
			t.Error("Replace or Same does not look at 4096 of", what)
		}
		count := 0
		for _, b := range f.Blocks {
			count += len(b.Code)
		}
		if have := ssa.Count(f); have != count {
			t.Error("Count of 4096 of", what, have)
		}
	}
	for _, count := range []int{4097, 4098, 1 << 16} {
		for what, f := range long(count) {
			if l := ssa.Succ(f); len(l) > 0 {
				t.Error("Succ looks at", count, what)
			}
			if l := ssa.Used(f); len(l) > 0 {
				t.Error("Used looks at", count, what)
			}
			if n := ssa.Count(f); n != 0 {
				t.Error("Count looks at", count, what, n)
			}
			if g := ssa.Replace(f, []int{1}); !equal(g, api.Fn{}) {
				t.Error("Replace looks at", count, what)
			}
			if ssa.Same(f, f) || ssa.Same(f, api.Fn{}) || ssa.Same(api.Fn{}, f) {
				t.Error("Same looks at", count, what)
			}
		}
	}
}

// P8.2: to may be longer than any list of a function.
func TestP82LongTo(t *testing.T) {
	f := example()
	to := make([]int, 1<<16)
	to[0], to[5000] = 7, 8
	f.Blocks[0].Term.Args = []int{0, 5000, 1, 70000}
	if have := ssa.Replace(f, to).Blocks[0].Term.Args; !slices.Equal(have, []int{7, 8, 0, 70000}) {
		t.Error("Replace by a long list:", have)
	}
}

// P8.2: Same of functions that part in one place each.
func TestP82Same(t *testing.T) {
	count := 0
	for _, f := range append(some(12), fn("il>i", "ilx", "0 1 | 5#6 1 1 = 2; 7 | table 1 2(1) 3(0,2)/ 2 | | ret 0 1")) {
		if len(spots(&f)) > 200 {
			continue
		}
		if !ssa.Same(f, clone(f)) {
			t.Error("Same of a copy:", told(f))
		}
		allTurned(f, func(g api.Fn) {
			want := equal(f, g)
			if ssa.Same(f, g) != want || ssa.Same(g, f) != want {
				t.Error("Same of", told(f), told(g))
			}
			if !want {
				count++
			}
		})
	}
	if count < 10000 {
		t.Error("too few functions part:", count)
	}
	others := some(40)
	for i, f := range others {
		for j, g := range others {
			if have := ssa.Same(f, g); have != equal(f, g) || i == j && !have {
				t.Error("Same of", told(f), told(g))
			}
		}
	}
}

// P8.2: what stands in fields that a Kind does not ask for counts for Same, too.
func TestP82SameAll(t *testing.T) {
	f := example()
	for what, turn := range map[string]func(f *api.Fn){
		"the Arg of an EndReturn":  func(f *api.Fn) { f.Blocks[0].Term.Arg = 1 },
		"the To of an EndReturn":   func(f *api.Fn) { f.Blocks[0].Term.To = []api.Edge{{}} },
		"the N of an OpTick":       func(f *api.Fn) { f.Blocks[0].Code[0].N = 1 },
		"a value that nobody made": func(f *api.Fn) { f.Types = append(f.Types, api.I32) },
		"a block without anything": func(f *api.Fn) { f.Blocks = append(f.Blocks, api.Block{}) },
		"an instruction of zeros":  func(f *api.Fn) { f.Blocks[0].Code = append(f.Blocks[0].Code, api.Ins{}) },
	} {
		g := clone(f)
		turn(&g)
		if ssa.Same(f, g) || ssa.Same(g, f) || !ssa.Same(g, g) {
			t.Error("Same does not see", what)
		}
	}
}
