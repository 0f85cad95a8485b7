package ssa_test

import (
	"math"
	"reflect"
	"slices"
	"testing"

	"bellcrank/api"
	"bellcrank/ssa"
)

// wide is a value of which each list has room behind its end.
func wide[T any](x T) T { return copied(x, 9, false) }

// answer is all that the calls answer of an environment, a function and a list.
type answer struct {
	Right, Check, Same, Other bool
	Succ                      [][]int
	Count                     int
	Used                      []bool
	Replaced                  api.Fn
}

func ask(e api.Env, f api.Fn, to []int) answer {
	a := answer{Right: ssa.EnvRight(e), Check: ssa.Check(e, f), Same: ssa.Same(f, f), Other: ssa.Same(f, example())}
	a.Succ, a.Count, a.Used, a.Replaced = ssa.Succ(f), ssa.Count(f), ssa.Used(f), ssa.Replace(f, to)
	return a
}

// handed are functions to hand in, too long ones among them.
func handed() []api.Fn {
	l := some(120)
	for _, f := range long(4097) {
		l = append(l, f)
	}
	return l
}

// R4: no call writes into what it was handed, its lists' room too.
func TestR4NothingIsWritten(t *testing.T) {
	for seed, f := range handed() {
		d := dice(seed)
		e, g, to := wide(world()), wide(f), wide(d.shuffled(12, 0))
		e0, g0, to0 := copied(e, 0, true), copied(g, 0, true), copied(to, 0, true)
		ask(e, g, to)
		if !equal(copied(e, 0, true), e0) || !equal(copied(g, 0, true), g0) || !equal(copied(to, 0, true), to0) {
			t.Error("a call turned what it was handed:", told(f))
		}
	}
}

// span is the memory that a list may be written in, its room behind its end too.
type span struct{ from, to uintptr }

// spans are those of all lists that a value has.
func spans(v reflect.Value) (l []span) {
	switch v.Kind() {
	case reflect.Slice:
		size := uintptr(v.Cap()) * v.Type().Elem().Size()
		if size > 0 {
			l = append(l, span{v.Pointer(), v.Pointer() + size})
		}
		for i := range v.Len() {
			l = append(l, spans(v.Index(i))...)
		}
	case reflect.Struct:
		for i := range v.NumField() {
			l = append(l, spans(v.Field(i))...)
		}
	}
	return l
}

// apart tells whether no two lists of all these values share memory.
func apart(values ...any) bool {
	var all []span
	for _, v := range values {
		all = append(all, spans(reflect.ValueOf(v))...)
	}
	slices.SortFunc(all, func(a, b span) int { return int(a.from) - int(b.from) })
	for i := 1; i < len(all); i++ {
		if all[i].from < all[i-1].to {
			return false
		}
	}
	return true
}

// R4: the lists of an answer share no memory, not with one another, not with what was handed in, and not with another answer.
func TestR4AnswersShareNothing(t *testing.T) {
	for seed, f := range handed() {
		d := dice(seed)
		g, to := wide(f), wide(d.shuffled(12, 0))
		if ssa.Count(f) == 0 && len(ssa.Succ(f)) == 0 {
			g = f // its lists are one and the same, and of no answer
			if first, again := ask(world(), g, to), ask(world(), g, to); !apart(to, first, again) {
				t.Error("an answer shares memory:", told(f))
			}
			continue
		}
		if first, again := ask(world(), g, to), ask(world(), g, to); !apart(g, to, first, again) {
			t.Error("an answer shares memory:", told(f))
		}
	}
}

// R4: lists that share memory where they are handed in do not in the answer.
func TestR4SharedLists(t *testing.T) {
	for what, f := range long(4096) {
		g := ssa.Replace(f, []int{3})
		if !apart(g) || !equal(ssa.Replace(g, nil), g) {
			t.Error("the lists of an answer share memory:", what)
		}
	}
	one := []int{0}
	f := fn("i>", "i", "0 | tick; 45 | if 0 1 1/ | | trap")
	f.Blocks[0].Params, f.Blocks[0].Code[1].Args, f.Blocks[0].Code[1].Outs, f.Blocks[0].Term.To[0].Args, f.Blocks[0].Term.To[1].Args = one, one, one, one, one
	g := ssa.Replace(f, []int{4})
	want := fn("i>", "i", "0 | tick; 45 4 = 0 | if 4 1(4) 1(4)/ | | trap")
	if !equal(g, want) || one[0] != 0 || !apart(g) {
		t.Error("Replace of lists that share memory:", told(g))
	}
}

// R4: what is answered may be written over without turning what was handed in, and the other way round.
func TestR4AnswersAreTheCallers(t *testing.T) {
	for seed, f := range handed() {
		d := dice(seed)
		e, g, to := wide(world()), clone(f), wide(d.shuffled(12, 0))
		if len(f.Blocks) < 100 {
			g = wide(f)
		}
		first := ask(e, g, to)
		want := clone(first)
		spoil(&first)
		if !equal(e, world()) || !equal(g, f) {
			t.Error("what was handed in turned with the answer:", told(f))
		}
		again := ask(e, g, to)
		if !equal(again, want) {
			t.Error("behind an answer that was written over:", told(f))
		}
		spoil(&e)
		spoil(&g)
		spoil(&to)
		if !equal(again, want) {
			t.Error("the answer turned with what was handed in:", told(f))
		}
	}
}

// R3: the same calls have the same answers, whatever was asked between.
func TestR3Again(t *testing.T) {
	all := some(150)
	var first []answer
	for _, f := range all {
		first = append(first, ask(world(), f, upTo(5)))
	}
	for range 2 {
		for i, f := range slices.Backward(all) {
			if !equal(ask(world(), clone(f), upTo(5)), first[i]) {
				t.Error("another answer of the same:", told(f))
			}
		}
	}
}

// emptied is a function in which each list that is nil is an empty one.
func emptied(f api.Fn) api.Fn {
	f = clone(f)
	fill := func(l *[]int) {
		if *l == nil {
			*l = []int{}
		}
	}
	fill(&f.Sig.In)
	fill(&f.Sig.Out)
	fill(&f.Types)
	if f.Blocks == nil {
		f.Blocks = []api.Block{}
	}
	for i := range f.Blocks {
		b := &f.Blocks[i]
		fill(&b.Params)
		fill(&b.Term.Args)
		if b.Code == nil {
			b.Code = []api.Ins{}
		}
		if b.Term.To == nil {
			b.Term.To = []api.Edge{}
		}
		for n := range b.Code {
			fill(&b.Code[n].Args)
			fill(&b.Code[n].Outs)
		}
		for n := range b.Term.To {
			fill(&b.Term.To[n].Args)
		}
	}
	return f
}

// R6: a list that is nil and an empty one are the same.
func TestR6Empty(t *testing.T) {
	none := api.Env{Sigs: []api.Sig{{}}}
	empty := api.Env{Sigs: []api.Sig{{In: []int{}, Out: []int{}}}, Globals: []int{}, Muts: []bool{}}
	for _, f := range some(150) {
		g := emptied(f)
		if !equal(ask(none, f, nil), ask(empty, g, []int{})) {
			t.Error("empty lists have another answer:", told(f))
		}
		if !ssa.Same(f, g) || !ssa.Same(g, f) {
			t.Error("Same of no lists and of empty ones:", told(f))
		}
	}
}

// R1: no call panics at numbers as far out as there are, in each place of a function, an environment and a list.
func TestR1FarOut(t *testing.T) {
	for _, base := range append(mayBe(15), ends()) {
		for i := range spots(&base) {
			for _, n := range []int{math.MinInt, -1 << 32, -1, 0, 255, 256, 2047, 2048, 4096, 1 << 32, math.MaxInt} {
				f := clone(base)
				*spots(&f)[i] = n
				if ssa.Check(world(), f) != (len(faults(world(), f)) == 0) {
					t.Error("Check of", told(f))
				}
				ask(world(), f, []int{n, -n})
			}
		}
	}
	for _, n := range []uint64{1 << 31, 1 << 32, 1<<33 + 1, 1 << 63, 1<<64 - 1} {
		for op := range 0x120 {
			ask(world(), lone(op, n, "x", ""), nil)
			ask(api.Env{}, lone(op, n, "", "i"), nil)
		}
	}
	ask(api.Env{Imports: math.MinInt, Globals: make([]int, 1<<20)}, api.Fn{}, make([]int, 1<<20))
}

// R1: functions that hand themselves round, and ones whose lists are all as long as may be, come to an end.
func TestR1Ends(t *testing.T) {
	l := make([]int, 4096)
	f := api.Fn{Types: l, Blocks: make([]api.Block, 4096)}
	edges := slices.Repeat([]api.Edge{{Args: l[:1]}}, 4096)
	for b := range 64 {
		f.Blocks[b] = api.Block{Params: l, Code: slices.Repeat([]api.Ins{{Args: l[:9], Outs: l[:9]}}, 64), Term: api.Term{Kind: 3, To: edges, Args: l}}
	}
	if ssa.Check(world(), f) || !ssa.Same(f, f) || ssa.Count(f) != 4096 || !ssa.Used(f)[0] || len(ssa.Succ(f)[63]) != 4096 {
		t.Error("a function with long lists")
	}
	if g := ssa.Replace(f, []int{2}); g.Blocks[63].Term.To[4095].Args[0] != 2 || g.Blocks[63].Term.Arg != 2 {
		t.Error("Replace of a function with long lists")
	}
	ring := chain(256)
	for b := range ring.Blocks {
		ring.Blocks[b].Term = api.Term{Kind: api.EndBr, To: []api.Edge{{To: 1 + b%255}}}
	}
	checks(t, "a ring without a tick", world(), ring, "circle")
	ring.Blocks[128].Code = []api.Ins{tick}
	checks(t, "a ring with one", world(), ring, "")
}
