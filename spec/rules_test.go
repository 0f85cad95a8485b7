package spec_test

import (
	"reflect"
	"slices"
	"strings"
	"testing"

	"bellcrank/api"
	"bellcrank/spec"
	"bellcrank/typing"
)

// wide is a value of which each list has room behind its end.
func wide[T any](x T) T { return copied(x, 9, false) }

// busy are calls that write into all that there is, and ones that are refused.
func busy() map[string]scene {
	m := bodyOf("il>il", "20:0 41:100 36:0 20:0 24:0 20:1 24:1 41:1 40 1a 41:300 20:1 37:0 10:1 41:5 42:6 10:0 1a 41:3 10:2 21:3 21:2 1a 20:0 41:9 21:0 20:1 42:9 21:1")
	s := begun(m)
	s.Input, s.Log = []uint64{1, 2, 3, 4, 5, 6}, []uint64{7, 8}
	less := clone(s)
	less.Input = less.Input[:3]
	wrong := clone(s)
	wrong.Fuel = -1
	return map[string]scene{
		"results":         {m, s, under, []uint64{40, 50}},
		"a host's":        {m, s, ask, []uint64{40}},
		"a trap":          {m, s, under, []uint64{253, 50}},
		"a late trap":     {m, less, under, []uint64{40, 50}},
		"ErrArg":          {m, s, under, []uint64{40}},
		"ErrArg, no such": {m, s, 9, []uint64{40, 50}},
		"ErrForm":         {m, wrong, under, []uint64{40, 50}},
		"ErrForm of m":    {api.Module{}, s, under, []uint64{40, 50}},
	}
}

// R4: no call writes into what it was handed, its lists' room too.
func TestR4NothingIsWritten(t *testing.T) {
	all := scenes(100)
	for _, c := range busy() {
		all = append(all, c)
	}
	for _, c := range all {
		m, s, args := wide(c.m), wide(c.s), wide(c.args)
		m0, s0, args0 := copied(m, 0, true), copied(s, 0, true), copied(args, 0, true)
		spec.Call(m, s, c.n, args)
		spec.Begin(m)
		spec.Fits(m, s)
		spec.Same(s, s)
		if !equal(copied(m, 0, true), m0) || !equal(copied(s, 0, true), s0) || !equal(copied(args, 0, true), args0) {
			t.Error("a call turned what it was handed", c)
		}
	}
}

// span is the memory that a list may be written in, its room behind its end too.
type span struct{ from, to uintptr }

// spans are those of all lists that a value has.
func spans(v reflect.Value) (l []span) {
	switch v.Kind() {
	case reflect.Slice:
		size := uintptr(v.Cap()) * v.Type().Elem().Size()
		if size > 0 {
			l = append(l, span{v.Pointer(), v.Pointer() + size})
		}
		for i := range v.Len() {
			l = append(l, spans(v.Index(i))...)
		}
	case reflect.Struct:
		for i := range v.NumField() {
			l = append(l, spans(v.Field(i))...)
		}
	}
	return l
}

// apart tells whether no two lists of all these values share memory.
func apart(values ...any) bool {
	var all []span
	for _, v := range values {
		all = append(all, spans(reflect.ValueOf(v))...)
	}
	slices.SortFunc(all, func(a, b span) int { return int(a.from) - int(b.from) })
	for i := 1; i < len(all); i++ {
		if all[i].from < all[i-1].to {
			return false
		}
	}
	return true
}

// R4: the lists of an answer share no memory, not with one another, not with what was handed in, and not with another answer.
func TestR4AnswersShareNothing(t *testing.T) {
	all := scenes(100)
	for _, c := range busy() {
		all = append(all, c)
	}
	for _, c := range all {
		m, s, args := wide(c.m), wide(c.s), wide(c.args)
		results, next, _ := spec.Call(m, s, c.n, args)
		again, other, _ := spec.Call(m, s, c.n, args)
		if !apart(m, s, args, results, next, again, other) {
			t.Error("what Call answers shares memory", c)
		}
		first, _ := spec.Begin(m)
		second, _ := spec.Begin(m)
		if !apart(m, first, second) {
			t.Error("what Begin answers shares memory", c.m)
		}
	}
}

// R4: what is answered may be written over without turning the state handed in, and the other way round.
func TestR4AnswersAreTheCallers(t *testing.T) {
	for what, c := range busy() {
		m, s, args := wide(c.m), wide(c.s), wide(c.args)
		want := told(c.m, c.s, c.n, c.args)
		var got outcome
		got.results, got.state, got.why = spec.Call(m, s, c.n, args)
		spoil(&got.results)
		spoil(&got.state)
		if !equal(m, c.m) || !equal(s, c.s) || !equal(args, c.args) {
			t.Error(what, "what was handed in turned with the answer")
		}
		got.results, got.state, got.why = spec.Call(m, s, c.n, args)
		if !equal(got, want) {
			t.Error(what, "behind an answer that was written over:", got)
		}
		spoil(&m)
		spoil(&s)
		spoil(&args)
		if !equal(got, want) {
			t.Error(what, "the answer turned with what was handed in")
		}
		x, y := append(got.state.Log, 91, 92), append(got.state.Input, 93, 94)
		z, u := append(got.results, 95, 96), append(got.state.Globals, 97, 98)
		if x[len(x)-1] != 92 || y[len(y)-1] != 94 || z[len(z)-1] != 96 || u[len(u)-1] != 98 || !equal(got, want) {
			t.Error(what, "what follows one list is seen behind another one")
		}
	}
	m := wide(world())
	first, _ := spec.Begin(m)
	want := clone(first)
	spoil(&first)
	again, why := spec.Begin(m)
	if why != api.OK || !equal(again, want) || !equal(m, world()) {
		t.Error("Begin, behind an answer that was written over:", again, why)
	}
	spoil(&m)
	if !equal(again, want) {
		t.Error("the first state turned with the module")
	}
}

// R3, R7: an answer hangs on the arguments alone, whatever was asked between.
func TestR3Again(t *testing.T) {
	all := busy()
	for range 3 {
		for what, c := range all {
			called(t, what, c.m, c.s, c.n, c.args)
			if s, why := spec.Begin(c.m); why == api.OK && s.Fuel != 0 {
				t.Error("Begin, behind", what)
			}
		}
	}
}

// R6: a list that is nil and an empty one are the same.
func TestR6NoListIsAnEmptyOne(t *testing.T) {
	m := api.Module{Types: []api.Sig{{}}, Funcs: []api.Func{{}}, Pages: -1, Start: -1}
	empty := api.Module{
		Types: []api.Sig{{In: []int{}, Out: []int{}}}, Imports: []api.Import{}, Funcs: []api.Func{{Locals: []int{}, Body: []api.Instr{}}},
		Globals: []api.Global{}, Exports: []api.Export{}, Datas: []api.Data{}, Pages: -1, Start: -1,
	}
	none := api.State{Fuel: 2}
	lists := api.State{Fuel: 2, Mem: []byte{}, Globals: []uint64{}, Input: []uint64{}, Log: []uint64{}}
	for _, m := range []api.Module{m, empty} {
		begins(t, "nothing", m, api.State{})
		for _, s := range []api.State{none, lists} {
			fits(t, "nothing", m, s, true)
			for _, args := range [][]uint64{nil, {}} {
				calls(t, "nothing", m, s, 0, args, outcome{state: api.State{Fuel: 1}})
				calls(t, "nothing", m, s, 1, args, outcome{state: none, why: api.ErrArg})
			}
		}
	}
	if !spec.Same(none, lists) || !spec.Same(lists, none) {
		t.Error("Same of no lists and of empty ones")
	}
}

// R1: modules of which each number, each truth and each list is turned. No call panics, and all answers are what the document's words say.
func TestR1TurnedModules(t *testing.T) {
	t.Parallel()
	ends := map[api.Errno]int{}
	m := bodyOf("i>i", "42:5 24:1 20:0 02i>i 03i>i 20:0 41:1 6b 22:0 04>i 41:100 28:1 else 41:6 20:0 0e:1,0 end 0c:1 end end 10:3 20:0 0d:0 40")
	s := begun(m)
	allTurned(m, func(m api.Module) {
		got := called(t, "a module that is turned", m, s, under, []uint64{2})
		if first, why := spec.Begin(m); (why != api.OK) != (typing.Check(m) != api.Fault{}) || why == api.OK && !spec.Fits(m, first) {
			t.Error("the first state", first, why, "of", m)
		}
		ends[got.why]++
	})
	if ends[api.OK] < 200 || ends[api.ErrForm] < 800 {
		t.Error("the calls are too much alike:", ends)
	}
}

// R1: states, numbers and arguments that are turned.
func TestR1TurnedStates(t *testing.T) {
	t.Parallel()
	ends := map[api.Errno]int{}
	for _, c := range scenes(12) {
		hold := func(s api.State, n int, args []uint64) {
			ends[called(t, "a state that is turned", c.m, s, n, args).why]++
			if spec.Fits(c.m, s) != fitting(c.m, s) {
				t.Error("Fits of", s)
			}
		}
		c.s.Mem, c.s.Input = nil, c.s.Input[:min(len(c.s.Input), 3)]
		allTurned(c.s, func(s api.State) { hold(s, c.n, c.args) })
		allTurned(c.args, func(args []uint64) { hold(c.s, c.n, args) })
		allTurned(c.n, func(n int) { hold(c.s, n, c.args) })
	}
	if ends[api.OK] < 100 || ends[api.ErrForm] < 100 || ends[api.ErrArg] < 100 {
		t.Error("the calls are too much alike:", ends)
	}
}

// R1: a module that has itself within itself, and lists that are far too long.
func TestR1Endless(t *testing.T) {
	m := bodyOf(">", "02 end")
	body := m.Funcs[under-imported].Body
	body[0].Body = body
	s := begun(world())
	if _, why := spec.Begin(m); why != api.ErrForm || spec.Fits(m, s) {
		t.Error("a module that has itself within itself:", why)
	}
	if got, next, why := spec.Call(m, s, under, nil); why != api.ErrForm || len(got) > 0 || !equal(next, s) {
		t.Error("a call of a module that has itself within itself:", why)
	}
	m = bodyOf(">", "")
	s.Input, s.Log = make([]uint64, 1<<20), make([]uint64, 1<<20)
	s.Mem = make([]byte, 1<<24)
	calls(t, "a state that is far too long", m, s, under, nil, outcome{state: s, why: api.ErrForm})
	calls(t, "arguments that are far too many", m, begun(m), under, make([]uint64, 1<<20), outcome{state: begun(m), why: api.ErrArg})
}

// R1: the longest runs that there are end, with all fuel, all operators, and all pages.
func TestR1Longest(t *testing.T) {
	t.Parallel()
	for _, c := range []struct {
		text  string
		count int
	}{{"41:0 42:7 37:8 ", 500 / 3}, {"41:0 40 1a ", 500 / 3}, {"41:0 29:8 1a ", 500 / 3}, {"41:9 41:5 6a 1a ", 500 / 4}, {"10:1 ", 500}} {
		m := bodyOf(">", "03 "+strings.Repeat(c.text, c.count)+"0c:0 end")
		m.Pages, m.Most = 16, 16
		s := begun(m)
		s.Fuel = 1024
		got, next, why := spec.Call(m, s, under, nil)
		if why != api.TrapFuel || len(got) > 0 || next.Fuel != 0 {
			t.Error(c.text, why, next.Fuel)
		}
		if told := 1023 * c.count; strings.HasPrefix(c.text, "10") && len(next.Log) != told {
			t.Error("the Log has", len(next.Log), "and not", told)
		}
	}
}
