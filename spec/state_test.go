package spec_test

import (
	"bytes"
	"slices"
	"testing"

	"bellcrank/api"
	"bellcrank/spec"
)

// begins holds Begin of a module against a state.
func begins(t *testing.T, what string, m api.Module, want api.State) {
	t.Helper()
	before := clone(m)
	got, why := spec.Begin(m)
	if why != api.OK || !equal(got, want) {
		t.Errorf("%s: %v %v, not %v", what, got, why, want)
	}
	if !equal(m, before) {
		t.Errorf("%s: Begin turned the module", what)
	}
	if !spec.Fits(m, got) {
		t.Errorf("%s: the first state does not fit", what)
	}
}

// faulty are modules that may not be, each by one thing of those that Check looks for.
func faulty() map[string]api.Module {
	l := map[string]api.Module{"a type in a body": bodyOf(">i", "41:1 42:2 6a")}
	turned := func(what string, f func(m *api.Module)) {
		m := bodyOf(">", "")
		f(&m)
		l[what] = m
	}
	turned("too many types", func(m *api.Module) { m.Types = make([]api.Sig, 65) })
	turned("a form that no bytes have", func(m *api.Module) { m.Most = 17 })
	turned("an import without its type", func(m *api.Module) { m.Imports[1].Type = 30 })
	turned("an export without its function", func(m *api.Module) { m.Exports = []api.Export{{Name: "f", N: 6}} })
	turned("a start that takes something", func(m *api.Module) { m.Start = same })
	turned("bytes past the memory", func(m *api.Module) { m.Datas = append(m.Datas, api.Data{At: 257}) })
	turned("bytes without a memory", func(m *api.Module) { m.Pages, m.Most = -1, 0 })
	turned("the last body", func(m *api.Module) { m.Funcs[swap-imported].Body = ops("20:0 20:1") })
	l["a module of zeros"] = api.Module{}
	l["a memory without a number"] = api.Module{Pages: -2, Start: -1}
	return l
}

// P6.1: a module that may not be has no first state.
func TestP61Faults(t *testing.T) {
	for what, m := range faulty() {
		if s, why := spec.Begin(m); why != api.ErrForm || !equal(s, api.State{}) {
			t.Error(what, s, why)
		}
	}
}

// P6.1: without a memory, and with one that has no pages.
func TestP61NoBytes(t *testing.T) {
	none := api.Module{Pages: -1, Start: -1}
	begins(t, "nothing at all", none, api.State{})
	none.Globals = []api.Global{{Type: 0x7f, N: 1<<32 - 1}, {Type: 0x7e, Mut: true, N: 1<<64 - 1}, {Type: 0x7f, Mut: true}}
	begins(t, "globals", none, api.State{Globals: []uint64{1<<32 - 1, 1<<64 - 1, 0}})
	for _, most := range []int{0, 1, 5, 16} {
		m := api.Module{Most: most, Start: -1}
		begins(t, "a memory without pages", m, api.State{Most: 256 * most})
		m.Datas = []api.Data{{}, {Bytes: []byte{}}}
		begins(t, "bytes without bytes", m, api.State{Most: 256 * most})
	}
}

// P6.1: pages of 0, and the Datas in order.
func TestP61Datas(t *testing.T) {
	m := api.Module{Pages: 2, Most: 7, Start: -1}
	want := api.State{Mem: make([]byte, 512), Most: 7 * 256}
	begins(t, "pages without Datas", m, want)
	m.Datas = []api.Data{
		{At: 3, Bytes: []byte{1, 2, 3, 4, 5}}, {At: 254, Bytes: []byte{6, 7, 8, 9}}, {At: 5, Bytes: []byte{0, 10}}, {At: 511, Bytes: []byte{11}}, {At: 512}, {At: 2, Bytes: []byte{12, 13}},
	}
	copy(want.Mem[2:], []byte{12, 13, 2, 0, 10, 5})
	copy(want.Mem[254:], []byte{6, 7, 8, 9})
	want.Mem[511] = 11
	begins(t, "Datas over one another", m, want)
	slices.Reverse(m.Datas)
	copy(want.Mem[2:], []byte{12, 1, 2, 3, 4, 5})
	begins(t, "the same in another order", m, want)

	all := bytes.Repeat([]byte{1, 2, 3, 255}, 1024)
	m = api.Module{Pages: 16, Most: 16, Start: -1, Datas: []api.Data{{Bytes: all}}}
	begins(t, "all bytes that there can be", m, api.State{Mem: all, Most: 4096})
}

// P6.1: no fuel, no Input, no Log; and the start is not called.
func TestP61Start(t *testing.T) {
	m := world()
	put(&m, under-imported, ">", "", "41:9 24:0 10:1 41:0 41:9 36:0 00")
	m.Start = under
	mem := make([]byte, 256)
	copy(mem[100:], []byte{200, 201, 202, 203, 204, 205, 206, 207})
	begins(t, "a start", m, api.State{Mem: mem, Most: 768, Globals: []uint64{11, 12, 13, 14}})
}

// misses are turns of a state of the world, behind each of which it does not fit.
func misses() map[string]func(s *api.State) {
	return map[string]func(s *api.State){
		"one byte more":            func(s *api.State) { s.Mem = append(s.Mem, 0) },
		"one byte less":            func(s *api.State) { s.Mem = s.Mem[1:] },
		"half a page":              func(s *api.State) { s.Mem = s.Mem[:128] },
		"more than Most":           func(s *api.State) { s.Most = 255 },
		"a page more than Most":    func(s *api.State) { s.Mem = make([]byte, 1024) },
		"no Most":                  func(s *api.State) { s.Most = 0 },
		"a Most below 0":           func(s *api.State) { s.Most = -1 },
		"the least Most":           func(s *api.State) { s.Most = -1 << 63 },
		"a Most above 4096":        func(s *api.State) { s.Most = 4097 },
		"the greatest Most":        func(s *api.State) { s.Most = 1<<63 - 1 },
		"17 pages":                 func(s *api.State) { s.Most, s.Mem = 17*256, make([]byte, 17*256) },
		"no bytes, a Most below 0": func(s *api.State) { s.Most, s.Mem = -256, nil },
		"a global too few":         func(s *api.State) { s.Globals = s.Globals[:3] },
		"no globals":               func(s *api.State) { s.Globals = nil },
		"a global too many":        func(s *api.State) { s.Globals = append(s.Globals, 0) },
		"a global of 33 bits":      func(s *api.State) { s.Globals[0] = 1 << 32 },
		"a global of 64 bits":      func(s *api.State) { s.Globals[2] = 1<<64 - 1 },
		"fuel below 0":             func(s *api.State) { s.Fuel = -1 },
		"the least fuel":           func(s *api.State) { s.Fuel = -1 << 63 },
		"one fuel too many":        func(s *api.State) { s.Fuel = 1025 },
		"the greatest fuel":        func(s *api.State) { s.Fuel = 1<<63 - 1 },
		"one Input too many":       func(s *api.State) { s.Input = make([]uint64, 4097) },
		"one Log too many":         func(s *api.State) { s.Log = make([]uint64, 4097) },
	}
}

// fitters are turns of a state of the world, behind each of which it still fits.
func fitters() map[string]func(s *api.State) {
	return map[string]func(s *api.State){
		"nothing":                     func(*api.State) {},
		"no bytes":                    func(s *api.State) { s.Mem = nil },
		"no bytes and no Most":        func(s *api.State) { s.Mem, s.Most = []byte{}, 0 },
		"as many bytes as Most":       func(s *api.State) { s.Most = 256 },
		"a Most that is no page's":    func(s *api.State) { s.Most = 257 },
		"more than the module's Most": func(s *api.State) { s.Most, s.Mem = 1024, make([]byte, 1024) },
		"all pages":                   func(s *api.State) { s.Most, s.Mem = 4096, make([]byte, 4096) },
		"the greatest globals":        func(s *api.State) { s.Globals = numbers("4294967295 18446744073709551615 4294967295 -1") },
		"no fuel":                     func(s *api.State) { s.Fuel = 0 },
		"all fuel":                    func(s *api.State) { s.Fuel = 1024 },
		"4096 Input":                  func(s *api.State) { s.Input = slices.Repeat([]uint64{1<<64 - 1}, 4096) },
		"4096 Log":                    func(s *api.State) { s.Log = slices.Repeat([]uint64{1<<64 - 1}, 4096) },
		"4096 of both":                func(s *api.State) { s.Log, s.Input = make([]uint64, 4096), make([]uint64, 4096) },
	}
}

// fits holds Fits against an answer, and against the document's words told once more.
func fits(t *testing.T, what string, m api.Module, s api.State, want bool) {
	t.Helper()
	m0, s0 := clone(m), clone(s)
	if spec.Fits(m, s) != want || fitting(m, s) != want {
		t.Error("Fits:", what, "is not", want)
	}
	if !equal(m, m0) || !equal(s, s0) {
		t.Error("Fits turned what it was handed:", what)
	}
}

// P6.2: which states fit the world.
func TestP62Fits(t *testing.T) {
	m := bodyOf(">", "")
	for want, turns := range map[bool]map[string]func(s *api.State){true: fitters(), false: misses()} {
		for what, turn := range turns {
			s := begun(m)
			turn(&s)
			fits(t, what, m, s, want)
		}
	}
}

// P6.2: without a memory there are neither bytes nor a Most.
func TestP62NoMemory(t *testing.T) {
	none := api.Module{Pages: -1, Start: -1}
	fits(t, "nothing", none, api.State{}, true)
	fits(t, "empty lists", none, api.State{Mem: []byte{}, Globals: []uint64{}, Input: []uint64{}, Log: []uint64{}}, true)
	fits(t, "fuel, Input and Log", none, api.State{Fuel: 1024, Input: []uint64{1}, Log: []uint64{2}}, true)
	fits(t, "a Most", none, api.State{Most: 256}, false)
	fits(t, "a Most of a byte", none, api.State{Most: 1}, false)
	fits(t, "a Most below 0", none, api.State{Most: -1}, false)
	fits(t, "bytes", none, api.State{Mem: make([]byte, 256)}, false)
	fits(t, "bytes and a Most", none, api.State{Mem: make([]byte, 256), Most: 256}, false)
	fits(t, "a global", none, api.State{Globals: []uint64{0}}, false)
	with := api.Module{Start: -1}
	fits(t, "a memory without pages", with, api.State{}, true)
	fits(t, "a memory without pages that grew", with, api.State{Mem: make([]byte, 512), Most: 600}, true)
	fits(t, "a memory without pages, bytes without a Most", with, api.State{Mem: make([]byte, 256)}, false)
}

// P6.2: nothing fits a module that may not be.
func TestP62Faults(t *testing.T) {
	s := begun(world())
	for what, m := range faulty() {
		fits(t, what, m, s, false)
		fits(t, what, m, api.State{}, false)
	}
}

// P6.2: Same of states that part in one thing each.
func TestP62Same(t *testing.T) {
	full := api.State{Mem: []byte{1, 2}, Most: 3, Globals: []uint64{4, 5}, Fuel: 6, Input: []uint64{7, 8}, Log: []uint64{9, 10}}
	hold := func(what string, a, b api.State, want bool) {
		t.Helper()
		a0, b0 := clone(a), clone(b)
		if spec.Same(a, b) != want || spec.Same(b, a) != want {
			t.Error("Same:", what, "is not", want)
		}
		if !equal(a, a0) || !equal(b, b0) {
			t.Error("Same turned what it was handed:", what)
		}
	}
	hold("itself", full, full, true)
	hold("another one", full, clone(full), true)
	hold("nothing", api.State{}, api.State{}, true)
	hold("no lists and empty ones", api.State{}, api.State{Mem: []byte{}, Globals: []uint64{}, Input: []uint64{}, Log: []uint64{}}, true)
	hold("nothing and something", api.State{}, full, false)
	hold("what does not fit", api.State{Most: -1, Fuel: 1 << 62}, api.State{Most: -1, Fuel: 1 << 62}, true)
	turned := 0
	allTurned(full, func(s api.State) {
		turned++
		hold("what is turned", full, s, false)
	})
	if turned < 60 {
		t.Error("only", turned, "turned states")
	}
	changed := clone(full)
	changed.Globals, changed.Input = full.Input, full.Globals
	hold("two lists changed with each other", full, changed, false)
	long := api.State{Mem: make([]byte, 5000), Log: make([]uint64, 5000)}
	hold("long lists", long, clone(long), true)
	other := clone(long)
	other.Log[4999] = 1
	hold("long lists that part at the end", long, other, false)
	other = clone(long)
	other.Mem[4999] = 1
	hold("long memories that part at the end", long, other, false)
}
