package spec_test

import (
	"fmt"
	"slices"
	"strconv"
	"strings"
	"testing"

	"bellcrank/api"
	"bellcrank/spec"
	"bellcrank/typing"
)

// The calls have just these types.
var (
	_ func(api.Module) (api.State, api.Errno)                                     = spec.Begin
	_ func(api.Module, api.State, int, []uint64) ([]uint64, api.State, api.Errno) = spec.Call
	_ func(api.Module, api.State) bool                                            = spec.Fits
	_ func(api.State, api.State) bool                                             = spec.Same
)

// kinds reads types: i is I32, l is I64.
func kinds(text string) []int {
	var l []int
	for _, c := range text {
		l = append(l, map[rune]int{'i': 0x7f, 'l': 0x7e}[c])
	}
	return l
}

// sig reads a function's type: what it takes, and, behind the mark, what it answers.
func sig(text string) api.Sig {
	in, out, _ := strings.Cut(text, ">")
	return api.Sig{In: kinds(in), Out: kinds(out)}
}

// reading reads operators of words: an operator's byte in hexadecimal; behind a colon its numbers, which may have a sign; behind a block's byte its type, and what is in it up to the word end, or up to else and then end.
type reading struct{ words []string }

func (r *reading) list() (l []api.Instr, last string) {
	for len(r.words) > 0 {
		word := r.words[0]
		r.words = r.words[1:]
		if word == "else" || word == "end" {
			return l, word
		}
		l = append(l, r.operator(word))
	}
	return l, ""
}

func (r *reading) operator(word string) api.Instr {
	in := api.Instr{Op: int(number(word[:2], 16))}
	rest := word[2:]
	switch {
	case in.Op >= 2 && in.Op <= 4:
		in.Type = sig(rest)
		last := ""
		in.Body, last = r.list()
		if last == "else" {
			in.HasElse = true
			in.Else, _ = r.list()
		}
	case in.Op == 0x0e:
		for _, to := range strings.Split(rest[1:], ",") {
			in.Targets = append(in.Targets, int(number(to, 10)))
		}
	case in.Op == 0x41:
		in.N = uint64(uint32(number(rest[1:], 10)))
	case rest != "":
		in.N = number(rest[1:], 10)
	}
	return in
}

// number reads a number; one below 0 as its 64 bits.
func number(text string, base int) uint64 {
	if strings.HasPrefix(text, "-") {
		return -number(text[1:], base)
	}
	n, err := strconv.ParseUint(text, base, 64)
	if err != nil {
		panic(err)
	}
	return n
}

// ops reads operators.
func ops(text string) []api.Instr {
	r := reading{strings.Fields(text)}
	l, _ := r.list()
	return l
}

// numbers reads numbers of 64 bits. Of I32 they must be without a sign.
func numbers(text string) []uint64 {
	var l []uint64
	for _, word := range strings.Fields(text) {
		l = append(l, number(word, 10))
	}
	return l
}

// typeOf answers the number of a type, which the module gets, if it has it not.
func typeOf(m *api.Module, s api.Sig) int {
	for i, t := range m.Types {
		if slices.Equal(t.In, s.In) && slices.Equal(t.Out, s.Out) {
			return i
		}
	}
	m.Types = append(m.Types, s)
	return len(m.Types) - 1
}

// know gives the module the types of all blocks.
func know(m *api.Module, l []api.Instr) {
	for _, in := range l {
		if in.Op >= 2 && in.Op <= 4 && len(in.Type.In)+len(in.Type.Out) > 0 {
			typeOf(m, in.Type)
		}
		know(m, in.Body)
		know(m, in.Else)
	}
}

// put gives the n-th function a type, locals and a body.
func put(m *api.Module, n int, typ, locals, text string) {
	f := &m.Funcs[n]
	f.Type, f.Locals, f.Body = typeOf(m, sig(typ)), kinds(locals), ops(text)
	know(m, f.Body)
}

// The functions of the world by their numbers, the imported ones first.
const (
	tell  = 0 // the host's: il>l
	stop  = 1 // the host's: >
	ask   = 2 // the host's: i>ili
	same  = 3 // i>i: answers what it was handed
	under = 4 // the one under test
	swap  = 5 // li>il: answers what it was handed, changed with each other
)

// funcs are the types of the functions that one under test may call.
func funcs() map[int]string {
	return map[int]string{tell: "il>l", stop: ">", ask: "i>ili", same: "i>i", swap: "li>il"}
}

const imported = 3

// world is a module with something of all that a body may ask for. Its memory has 200, 201 and so on from 100 on, its globals are 11, 12, 13 and 14.
func world() api.Module {
	m := api.Module{
		Types: []api.Sig{{}}, Pages: 1, Most: 3, Start: -1,
		Funcs:   make([]api.Func, 3),
		Globals: []api.Global{{Type: 0x7f, Mut: true, N: 11}, {Type: 0x7e, Mut: true, N: 12}, {Type: 0x7f, N: 13}, {Type: 0x7e, N: 14}},
		Datas:   []api.Data{{At: 100, Bytes: []byte{200, 201, 202, 203, 204, 205, 206, 207}}},
	}
	for _, n := range []int{tell, stop, ask} {
		m.Imports = append(m.Imports, api.Import{Mod: "env", Name: "f", Type: typeOf(&m, sig(funcs()[n]))})
	}
	put(&m, same-imported, funcs()[same], "", "20:0")
	put(&m, swap-imported, funcs()[swap], "", "20:1 20:0")
	return m
}

// fuel is what a state of the world has.
const fuel = 100

// begun is a module's first state, with fuel.
func begun(m api.Module) api.State {
	s, why := spec.Begin(m)
	if why != api.OK {
		panic(fmt.Sprint("a module of a test's own may not be: ", typing.Check(m), m.Funcs))
	}
	s.Fuel = fuel
	return s
}

// bodyOf is the world with a function under test, which has the locals l, i behind what it takes.
func bodyOf(typ, text string) api.Module {
	m := world()
	put(&m, under-imported, typ, "li", text)
	return m
}

// outcome is all that a call answers.
type outcome struct {
	results []uint64
	state   api.State
	why     api.Errno
}

// String tells an outcome; of the memory how long it is, and the bytes that are not 0.
func (o outcome) String() string {
	text := fmt.Sprint(o.results, " ", o.why, ", ", len(o.state.Mem), " bytes")
	for i, b := range o.state.Mem {
		if b != 0 {
			text += fmt.Sprint(" ", i, ":", b)
		}
	}
	o.state.Mem = nil
	return text + fmt.Sprintf(", %+v", o.state)
}

// called is what Call answers. It is held against the document's words told once more, and what was handed in must stay.
func called(t *testing.T, what string, m api.Module, s api.State, n int, args []uint64) outcome {
	t.Helper()
	m0, s0, args0 := clone(m), clone(s), clone(args)
	var got outcome
	got.results, got.state, got.why = spec.Call(m, s, n, args)
	if want := told(m, s, n, args); !equal(got, want) {
		t.Errorf("%s: %v, not %v as the document tells", what, got, want)
	}
	if !equal(m, m0) || !equal(s, s0) || !equal(args, args0) {
		t.Errorf("%s: Call turned what it was handed", what)
	}
	return got
}

// calls holds Call against an answer.
func calls(t *testing.T, what string, m api.Module, s api.State, n int, args []uint64, want outcome) {
	t.Helper()
	if got := called(t, what, m, s, n, args); !equal(got, want) {
		t.Errorf("%s: %v, not %v", what, got, want)
	}
}

// answers holds what a body of the world answers, which turns nothing but the fuel.
func answers(t *testing.T, typ, text, args, results string) {
	t.Helper()
	m := bodyOf(typ, text)
	got := called(t, typ+": "+text, m, begun(m), under, numbers(args))
	if got.why != api.OK || !slices.Equal(got.results, numbers(results)) {
		t.Errorf("%s: %s of %s: %v %v, not %s", typ, text, args, got.results, got.why, results)
	}
	got.state.Fuel = fuel
	if !spec.Same(got.state, begun(m)) {
		t.Errorf("%s: %s of %s: it turned the state: %v", typ, text, args, got)
	}
}

// leaves holds what a body of the world makes of the state that it begins with, and its end. Both states are told by what is turned of the first one.
func leaves(t *testing.T, typ, text, args string, ahead func(s *api.State), results string, why api.Errno, behind func(s *api.State)) {
	t.Helper()
	m := bodyOf(typ, text)
	s := begun(m)
	if ahead != nil {
		ahead(&s)
	}
	want := outcome{results: numbers(results), state: clone(s), why: why}
	behind(&want.state)
	calls(t, typ+": "+text, m, s, under, numbers(args), want)
}

// traps holds the trap of a body of the world, which turns nothing but the fuel.
func traps(t *testing.T, why api.Errno, typ, text, args string) {
	t.Helper()
	m := bodyOf(typ, text)
	got := called(t, typ+": "+text, m, begun(m), under, numbers(args))
	if got.why != why || len(got.results) > 0 {
		t.Errorf("%s: %s of %s: %v %v, not %v", typ, text, args, got.results, got.why, why)
	}
	got.state.Fuel = fuel
	if !spec.Same(got.state, begun(m)) {
		t.Errorf("%s: %s of %s: it turned the state: %v", typ, text, args, got)
	}
}

// ticks holds how many ticks a body takes, at each amount of fuel up to one more.
func ticks(t *testing.T, typ, text, args string, count int) {
	t.Helper()
	m := bodyOf(typ, text)
	for have := range count + 2 {
		s := begun(m)
		s.Fuel = have
		got := called(t, typ+": "+text, m, s, under, numbers(args))
		want, left := api.OK, have-count
		if left < 0 {
			want, left = api.TrapFuel, 0
		}
		if got.why != want || got.state.Fuel != left {
			t.Errorf("%s: %s of %s, with fuel %d: %v, fuel %d, not %v, fuel %d", typ, text, args, have, got.why, got.state.Fuel, want, left)
		}
	}
}
