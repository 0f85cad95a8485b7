package wasm_test

import (
	"slices"
	"strings"
	"testing"

	"bellcrank/api"
	"bellcrank/wasm"
)

// fewIs holds Few of a module, and Same of it with itself, which is the same question.
func fewIs(t *testing.T, what string, want bool, m api.Module) {
	t.Helper()
	if got := wasm.Few(m); got != want {
		t.Errorf("Few of %s: %v", what, got)
	}
	if got := wasm.Same(m, m); got != want {
		t.Errorf("Same of %s and itself: %v", what, got)
	}
	if !want {
		refuses(t, what, m)
	}
}

// limit is a list, or a text, of a module, and how many elements it may have.
type limit struct {
	what string
	most int
	of   func(m *api.Module, count int)
}

func limits() []limit {
	one := func(m *api.Module) *api.Instr {
		m.Funcs = []api.Func{{}, {Body: []api.Instr{{}, {}}}}
		return &m.Funcs[1].Body[1]
	}
	deep := func(m *api.Module, in api.Instr) {
		m.Funcs = []api.Func{{Body: []api.Instr{{Op: 4, Else: []api.Instr{{Op: 0x6a, Body: []api.Instr{in}}}}}}}
	}
	return []limit{
		{"Types", 64, func(m *api.Module, n int) { m.Types = make([]api.Sig, n) }},
		{"Imports", 64, func(m *api.Module, n int) { m.Imports = make([]api.Import, n) }},
		{"Funcs", 64, func(m *api.Module, n int) { m.Funcs = make([]api.Func, n) }},
		{"Globals", 64, func(m *api.Module, n int) { m.Globals = make([]api.Global, n) }},
		{"Exports", 64, func(m *api.Module, n int) { m.Exports = make([]api.Export, n) }},
		{"Datas", 64, func(m *api.Module, n int) { m.Datas = make([]api.Data, n) }},
		{"an Import's Mod", 32, func(m *api.Module, n int) { m.Imports = []api.Import{{}, {Mod: strings.Repeat("a", n)}} }},
		{"an Import's Name", 32, func(m *api.Module, n int) { m.Imports = []api.Import{{}, {Name: strings.Repeat("a", n)}} }},
		{"an Export's Name", 32, func(m *api.Module, n int) { m.Exports = []api.Export{{}, {Name: strings.Repeat("\xff", n)}} }},
		{"a type's In", 4096, func(m *api.Module, n int) { m.Types = []api.Sig{{}, {In: make([]int, n)}} }},
		{"a type's Out", 4096, func(m *api.Module, n int) { m.Types = []api.Sig{{}, {Out: make([]int, n)}} }},
		{"Locals", 4096, func(m *api.Module, n int) { m.Funcs = []api.Func{{}, {Locals: make([]int, n)}} }},
		{"Data's bytes", 4096, func(m *api.Module, n int) { m.Datas = []api.Data{{}, {Bytes: make([]byte, n)}} }},
		{"an operator's In", 4096, func(m *api.Module, n int) { one(m).Type.In = make([]int, n) }},
		{"an operator's Out", 4096, func(m *api.Module, n int) { one(m).Type.Out = make([]int, n) }},
		{"Targets", 4096, func(m *api.Module, n int) { one(m).Targets = make([]int, n) }},
		{"an inner operator's In", 4096, func(m *api.Module, n int) { deep(m, api.Instr{Type: api.Sig{In: make([]int, n)}}) }},
		{"an inner operator's Out", 4096, func(m *api.Module, n int) { deep(m, api.Instr{Type: api.Sig{Out: make([]int, n)}}) }},
		{"an inner operator's Targets", 4096, func(m *api.Module, n int) { deep(m, api.Instr{Targets: make([]int, n)}) }},
		{"operators", 512, func(m *api.Module, n int) { m.Funcs = []api.Func{{}, {Body: make([]api.Instr, n)}} }},
		{"operators of a Body", 511, func(m *api.Module, n int) { one(m).Body = make([]api.Instr, n-1) }},
		{"operators of an Else", 511, func(m *api.Module, n int) { one(m).Else = make([]api.Instr, n-1) }},
		{"operators of an inner Else", 510, func(m *api.Module, n int) { deep(m, api.Instr{Op: 0x20, Else: make([]api.Instr, n-1)}) }},
		{"operators of both", 510, func(m *api.Module, n int) {
			x := one(m)
			x.Op, x.Body, x.Else = 4, make([]api.Instr, 300), make([]api.Instr, n-300)
		}},
		{"operators behind a Body", 501, func(m *api.Module, n int) {
			m.Funcs = []api.Func{{Body: append([]api.Instr{{Op: 2, Body: make([]api.Instr, 10)}}, make([]api.Instr, n)...)}}
		}},
		{"operators of each of some Bodies", 50, func(m *api.Module, n int) {
			m.Funcs = []api.Func{{Body: make([]api.Instr, 10)}}
			for i := range m.Funcs[0].Body {
				m.Funcs[0].Body[i].Body = make([]api.Instr, n)
			}
		}},
		{"blocks around an operator", 16, func(m *api.Module, n int) { m.Funcs = []api.Func{{Body: nest(n, 2, false)}} }},
		{"Elses around an operator", 16, func(m *api.Module, n int) { m.Funcs = []api.Func{{}, {Body: nest(n, 4, true)}} }},
		{"no blocks around an operator", 16, func(m *api.Module, n int) { m.Funcs = []api.Func{{Body: nest(n, 0x6a, false)}} }},
		{"their Elses around an operator", 16, func(m *api.Module, n int) { m.Funcs = []api.Func{{Body: nest(n, -1, true)}} }},
		{"blocks around one of many operators", 16, func(m *api.Module, n int) {
			m.Funcs = []api.Func{{Body: append(nest(3, 2, false), nest(n, 3, false)...)}}
		}},
	}
}

// nest is an operator within so many others.
func nest(count, op int, els bool) []api.Instr {
	l := []api.Instr{{Op: 1}}
	for range count {
		x := api.Instr{Op: op, Body: l}
		if els {
			x = api.Instr{Op: op, Else: l, HasElse: true}
		}
		l = []api.Instr{x}
	}
	return l
}

func TestP42FewAtEachLimit(t *testing.T) {
	for _, l := range limits() {
		for _, x := range []struct {
			count int
			want  bool
		}{{l.most - 1, true}, {l.most, true}, {l.most + 1, false}, {l.most + 2, false}, {2 * l.most, false}} {
			m := empty()
			l.of(&m, x.count)
			fewIs(t, l.what, x.want, m)
			rest := rich()
			rest.Funcs = nil
			l.of(&rest, x.count)
			fewIs(t, l.what+" of a module with more", x.want, rest)
		}
	}
}

func TestP42FewAltogether(t *testing.T) {
	fewIs(t, "no module", true, api.Module{})
	fewIs(t, "an empty one", true, empty())
	fewIs(t, "a rich one", true, rich())
	m := empty()
	for _, l := range limits()[:6] {
		l.of(&m, l.most)
	}
	for i := range m.Funcs {
		m.Funcs[i] = api.Func{Locals: make([]int, 4096), Body: make([]api.Instr, 512)}
	}
	fewIs(t, "one with all lists at their limits", true, m)
	m.Funcs[63].Body = make([]api.Instr, 513)
	fewIs(t, "one whose last function has too many", false, m)
	m = api.Module{Pages: 1 << 40, Most: -1, Start: 1 << 60, Funcs: []api.Func{{Type: -9}}}
	fewIs(t, "one of great numbers", true, m)
}

func TestP42FewEmptyBlocks(t *testing.T) {
	// A block within 16 others that has nothing in it has no operator within 17.
	m := empty()
	l := []api.Instr{{Op: 2, Body: []api.Instr{}, Else: []api.Instr{}}}
	for range 16 {
		l = []api.Instr{{Op: 2, Body: l}}
	}
	m.Funcs = []api.Func{{Body: l}}
	fewIs(t, "17 blocks, the innermost empty", true, m)
	refuses(t, "17 blocks, the innermost empty", m)
}

func TestP42FewWithinItself(t *testing.T) {
	m := empty()
	l := []api.Instr{{Op: 2}, {Op: 4, HasElse: true}}
	l[0].Body = l
	m.Funcs = []api.Func{{Body: l}}
	fewIs(t, "operators within themselves", false, m)
	l = []api.Instr{{Op: 1}, {Op: 4, HasElse: true}}
	l[1].Else = l
	m.Funcs = []api.Func{{Body: l}}
	fewIs(t, "operators in their own Else", false, m)
	// Two times two times two: more than can be gone through one by one.
	l = []api.Instr{{Op: 1}}
	for range 16 {
		l = slices.Repeat([]api.Instr{{Op: 2, Body: l, Else: l}}, 3)
	}
	m.Funcs = []api.Func{{Body: l}}
	fewIs(t, "operators that share what is in them", false, m)
}

func TestR1GreatLists(t *testing.T) {
	// Lists that share their memory may have many more elements together than a module has bytes.
	targets := make([]int, 4096)
	l := slices.Repeat([]api.Instr{{Op: 0x0e, Targets: targets, Type: api.Sig{In: targets, Out: targets}}}, 512)
	m := empty()
	m.Types = slices.Repeat([]api.Sig{{In: targets, Out: targets}}, 64)
	m.Funcs = slices.Repeat([]api.Func{{Locals: targets, Body: l}}, 64)
	m.Datas = slices.Repeat([]api.Data{{Bytes: make([]byte, 4096)}}, 64)
	if !wasm.Few(m) {
		t.Error("a module at its limits is not few")
	}
	refuses(t, "a module at its limits", m)
}

func TestP42Same(t *testing.T) {
	modules := []api.Module{{}, empty(), rich()}
	for seed := range 20 {
		d := dice(seed)
		modules = append(modules, d.module())
	}
	for _, m := range modules {
		if !wasm.Same(m, clone(m)) {
			t.Errorf("%v is not the same as itself", m)
		}
		turned(m, func(where string, v api.Module) {
			if wasm.Same(m, v) || wasm.Same(v, m) {
				t.Errorf("the same, but for%s: %v", where, m)
			}
			if !wasm.Same(v, clone(v)) {
				t.Errorf("with%s %v is not the same as itself", where, v)
			}
		})
	}
}

func TestP42SameOfOthers(t *testing.T) {
	pairs := func(what string, want bool, a, b api.Module) {
		t.Helper()
		if wasm.Same(a, b) != want || wasm.Same(b, a) != want {
			t.Error(what)
		}
	}
	m := rich()
	swapped := rich()
	swapped.Types[0], swapped.Types[1] = swapped.Types[1], swapped.Types[0]
	pairs("two types in another order", false, m, swapped)
	swapped = rich()
	swapped.Exports[0], swapped.Exports[1] = swapped.Exports[1], swapped.Exports[0]
	pairs("two exports in another order", false, m, swapped)
	other := rich()
	other.Funcs[2].Body[0].Body, other.Funcs[2].Body[0].Else = other.Funcs[2].Body[0].Else, other.Funcs[2].Body[0].Body
	pairs("Body and Else changed", false, m, other)
	pairs("no memory and an empty one", false, empty(), api.Module{Start: -1})
	for _, l := range limits() {
		a, b := empty(), empty()
		l.of(&a, l.most+2)
		l.of(&b, l.most+2)
		pairs(l.what+" above the limit, the same", false, a, b)
		pairs(l.what+" above the limit, and nothing", false, a, empty())
		l.of(&a, l.most)
		pairs(l.what+" at the limit, and above", false, a, b)
		l.of(&b, l.most)
		pairs(l.what+" at the limit", true, a, b)
	}
}

func TestR6NoListIsAnEmptyOne(t *testing.T) {
	none := api.Module{
		Types: []api.Sig{{}}, Funcs: []api.Func{{Body: []api.Instr{{Op: 2}, {Op: 4, HasElse: true}}}}, Datas: []api.Data{{}}, Pages: -1, Start: -1,
	}
	sig := api.Sig{In: []int{}, Out: []int{}}
	zero := api.Instr{Op: 2, Type: sig, Body: []api.Instr{}, Else: []api.Instr{}, Targets: []int{}}
	alternative := zero
	alternative.Op, alternative.HasElse = 4, true
	full := api.Module{
		Types: []api.Sig{sig}, Imports: []api.Import{}, Funcs: []api.Func{{Locals: []int{}, Body: []api.Instr{zero, alternative}}},
		Globals: []api.Global{}, Exports: []api.Export{}, Datas: []api.Data{{Bytes: []byte{}}}, Pages: -1, Start: -1,
	}
	if !wasm.Same(none, full) || !wasm.Same(full, none) {
		t.Error("lists that are nil and empty ones are not the same")
	}
	encodes(t, "lists that are nil", none, shortest().write(none))
	encodes(t, "empty lists", full, shortest().write(none))
	decodes(t, "no bytes behind the first ones", join(head(), []byte{}), empty())
	faults(t, "empty bytes", []byte{}, api.ErrEnd, 0)
	faults(t, "nil bytes", nil, api.ErrEnd, 0)
}
