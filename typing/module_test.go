package typing_test

import (
	"slices"
	"strconv"
	"strings"
	"testing"

	"bellcrank/api"
	"bellcrank/typing"
)

// nested is an operator within so many blocks.
func nested(count int) []api.Instr {
	l := ops("01")
	for range count {
		l = []api.Instr{{Op: 2, Body: l}}
	}
	return l
}

// P5.1: a module that is not few, by each of its lists; just as many as may be is another matter.
func TestP51NotFew(t *testing.T) {
	for what, turn := range map[string]func(m *api.Module){
		"Types":          func(m *api.Module) { m.Types = make([]api.Sig, 65) },
		"Imports":        func(m *api.Module) { m.Imports = make([]api.Import, 65) },
		"Funcs":          func(m *api.Module) { m.Funcs = make([]api.Func, 65) },
		"Globals":        func(m *api.Module) { m.Globals = make([]api.Global, 65) },
		"Exports":        func(m *api.Module) { m.Exports = make([]api.Export, 65) },
		"Datas":          func(m *api.Module) { m.Datas = make([]api.Data, 65) },
		"operators":      func(m *api.Module) { m.Funcs[2].Body = slices.Repeat(ops("01"), 513) },
		"blocks":         func(m *api.Module) { m.Funcs[0].Body = nested(17) },
		"a name":         func(m *api.Module) { m.Exports = []api.Export{{Name: strings.Repeat("a", 33)}} },
		"a host's name":  func(m *api.Module) { m.Imports[0].Mod = strings.Repeat("a", 33) },
		"what is taken":  func(m *api.Module) { m.Types[0].In = make([]int, 4097) },
		"Locals":         func(m *api.Module) { m.Funcs[0].Locals = make([]int, 4097) },
		"Targets":        func(m *api.Module) { m.Funcs[0].Body = []api.Instr{{Op: 0x0e, Targets: make([]int, 4097)}} },
		"a Data's bytes": func(m *api.Module) { m.Datas = []api.Data{{Bytes: make([]byte, 4097)}} },
	} {
		m := world()
		turn(&m)
		checks(t, "too many: "+what, m, whole(api.ErrMany))
		// It comes ahead of all else.
		m.Most, m.Start = -1, 900
		m.Funcs = append(m.Funcs, api.Func{Type: 900, Body: ops("05 6a")})
		checks(t, "too many, and more: "+what, m, whole(api.ErrMany))
	}
	m := world()
	m.Funcs[under].Body = slices.Repeat(ops("01"), 512)
	passes(t, "as many operators as may be", m)
	m.Funcs[under].Body = nested(16)
	passes(t, "as many blocks as may be", m)
	l := []api.Instr{{Op: 2}}
	l[0].Body = l
	m.Funcs[under].Body = l
	if f := typing.Check(m); f != whole(api.ErrMany) {
		t.Error("operators within themselves:", f)
	}
}

// refused are what layer 4's Encode does not take of a module that is few.
func refused() map[string]func(m *api.Module) {
	body := func(in api.Instr) func(m *api.Module) {
		return func(m *api.Module) { m.Funcs[under].Body = []api.Instr{{Op: 0x00}, in} }
	}
	return map[string]func(m *api.Module){
		"more types than a module may have":   func(m *api.Module) { m.Types = append(m.Types, make([]api.Sig, 33-len(m.Types))...) },
		"more functions":                      func(m *api.Module) { m.Funcs = append(m.Funcs, make([]api.Func, 31-len(m.Funcs))...) },
		"more globals":                        func(m *api.Module) { m.Globals = slices.Repeat([]api.Global{{Type: 0x7f}}, 33) },
		"more exports":                        func(m *api.Module) { m.Exports = make([]api.Export, 33) },
		"more datas":                          func(m *api.Module) { m.Datas = make([]api.Data, 33) },
		"more parameters":                     func(m *api.Module) { m.Types = append(m.Types, sig("iiiiiiiii>")) },
		"more results":                        func(m *api.Module) { m.Types = append(m.Types, sig(">iiiiiiiii")) },
		"more locals":                         func(m *api.Module) { m.Funcs[under].Locals = kinds(strings.Repeat("i", 33)) },
		"more blocks, the innermost empty":    func(m *api.Module) { m.Funcs[under].Body = []api.Instr{{Op: 3, Body: emptyBlocks(16)}} },
		"more bytes than a module may have":   func(m *api.Module) { m.Datas = slices.Repeat([]api.Data{{Bytes: make([]byte, 4096)}}, 4) },
		"a type of a value of another number": func(m *api.Module) { m.Types = append(m.Types, api.Sig{In: []int{0x7d}}) },
		"a local of no type":                  func(m *api.Module) { m.Funcs[under].Locals = []int{0} },
		"a global of no type":                 func(m *api.Module) { m.Globals[0].Type = 0x7c },
		"a global above its type":             func(m *api.Module) { m.Globals[2].N = 1 << 32 },
		"pages of too many":                   func(m *api.Module) { m.Pages, m.Most = 17, 17 },
		"more pages than there may ever be":   func(m *api.Module) { m.Most = 0 },
		"pages below none":                    func(m *api.Module) { m.Pages = -2 },
		"no memory that may grow":             func(m *api.Module) { m.Pages = -1 },
		"a start below none":                  func(m *api.Module) { m.Start = -2 },
		"a start of too many bits":            func(m *api.Module) { m.Start = 1 << 32 },
		"a name of a wrong byte":              func(m *api.Module) { m.Imports[0].Name = "\x1f" },
		"an export of the kind 1":             func(m *api.Module) { m.Exports = []api.Export{{Kind: 1}} },
		"an export of the kind 4":             func(m *api.Module) { m.Exports = []api.Export{{Name: "a"}, {Kind: 4}} },
		"an export of the kind -1":            func(m *api.Module) { m.Exports = []api.Export{{Kind: -1}} },
		"an export of the kind 256":           func(m *api.Module) { m.Exports = []api.Export{{Kind: 256}} },
		"an export below 0":                   func(m *api.Module) { m.Exports = []api.Export{{N: -1}} },
		"an import of a type below 0":         func(m *api.Module) { m.Imports[0].Type = -1 },
		"a function of a type below 0":        func(m *api.Module) { m.Funcs[0].Type = -1 },
		"a data below 0":                      func(m *api.Module) { m.Datas = []api.Data{{At: -1}} },
		"a data of too many bits":             func(m *api.Module) { m.Datas = []api.Data{{At: 1 << 32}} },
		"an operator that is none":            body(api.Instr{Op: 0x06}),
		"an operator below 0":                 body(api.Instr{Op: -1}),
		"an operator of two bytes":            body(api.Instr{Op: 0x101}),
		"an Else by itself":                   body(api.Instr{Op: 0x05}),
		"an end by itself":                    body(api.Instr{Op: 0x0b}),
		"an operator of floats":               body(api.Instr{Op: 0x92}),
		"a call through a table":              body(api.Instr{Op: 0x11}),
		"a local of too many bits":            body(api.Instr{Op: 0x20, N: 1 << 32}),
		"a constant above its type":           body(api.Instr{Op: 0x41, N: 1 << 32}),
		"a number of an operator without":     body(api.Instr{Op: 0x01, N: 1}),
		"a place of too many bits":            body(api.Instr{Op: 0x28, N: 1 << 32}),
		"a place above its bytes":             body(api.Instr{Op: 0x2c, M: 1}),
		"no target":                           body(api.Instr{Op: 0x0e}),
		"a target below 0":                    body(api.Instr{Op: 0x0e, Targets: []int{-1, 0}}),
		"targets of too many":                 body(api.Instr{Op: 0x0e, Targets: make([]int, 66)}),
		"targets of another operator":         body(api.Instr{Op: 0x0c, Targets: []int{0}}),
		"an Else of a block":                  body(api.Instr{Op: 0x02, HasElse: true}),
		"an Else that is not there":           body(api.Instr{Op: 0x04, Else: ops("01")}),
		"a body of no block":                  body(api.Instr{Op: 0x01, Body: ops("01")}),
		"a block of a type that is not there": body(api.Instr{Op: 0x02, Type: sig("iiii>")}),
	}
}

// emptyBlocks are so many within one another.
func emptyBlocks(count int) []api.Instr {
	var l []api.Instr
	for range count {
		l = []api.Instr{{Op: 2, Body: l}}
	}
	return l
}

// P5.1: a module that layer 4's Encode refuses.
func TestP51NotEncoded(t *testing.T) {
	for what, turn := range refused() {
		m := world()
		turn(&m)
		checks(t, what, m, whole(api.ErrForm))
		// It comes ahead of all but too many.
		m.Imports[1].Type, m.Funcs[2].Body = 31, ops("6a")
		checks(t, what+", and more", m, whole(api.ErrForm))
	}
	checks(t, "nothing but zeros: a memory, and a start that is not there", api.Module{}, whole(api.ErrIndex))
	passes(t, "no module's least", api.Module{Pages: -1, Start: -1})
	passes(t, "the world", world())
}

// P5.1, point 1: the types of functions, at the first and at the last one.
func TestP51Types(t *testing.T) {
	for i := range world().Imports {
		for _, n := range []int{len(world().Types), len(world().Types) + 1, 32, 1 << 20, 1<<32 - 1} {
			m := world()
			m.Imports[i].Type = n
			checks(t, "an import of the type "+strconv.Itoa(n), m, whole(api.ErrIndex))
		}
	}
	for i := range world().Funcs {
		for _, n := range []int{len(world().Types), len(world().Types) + 1, 32, 1 << 20, 1<<32 - 1} {
			m := world()
			m.Funcs[i].Type = n
			checks(t, "a function of the type "+strconv.Itoa(n), m, whole(api.ErrIndex))
		}
		m := world()
		m.Types = append(m.Types, sig("llll>"))
		m.Funcs[i] = api.Func{Type: len(m.Types) - 1}
		passes(t, "a function of the last type", m)
	}
	checks(t, "no types, and an import", api.Module{Pages: -1, Start: -1, Imports: []api.Import{{}}}, whole(api.ErrIndex))
	checks(t, "no types, and a function", api.Module{Pages: -1, Start: -1, Funcs: []api.Func{{}}}, whole(api.ErrIndex))
}

// P5.1, point 1: In and Locals together, and neither by itself.
func TestP51Locals(t *testing.T) {
	for i := range world().Funcs {
		for in := range 9 {
			for _, have := range []int{0, 23, 24, 25, 30, 31, 32} {
				m := world()
				put(&m, i, strings.Repeat("i", in)+">", strings.Repeat("l", have), "")
				want := api.Fault{}
				if in+have > 32 {
					want = whole(api.ErrMany)
				}
				checks(t, strconv.Itoa(in)+" and "+strconv.Itoa(have), m, want)
			}
		}
		m := world()
		put(&m, i, ">iiiiiiii", strings.Repeat("l", 32), "00")
		passes(t, "results are no locals", m)
	}
}

// P5.1, point 2: what an Export of each Kind stands for.
func TestP51ExportsAreThere(t *testing.T) {
	have := map[int]int{0: worldFuncs, 2: 1, 3: 4}
	for kind, count := range have {
		for _, n := range []int{0, 1, 2, 3, 4, 5, 6, 31, 1 << 20, 1<<32 - 1} {
			want := api.Fault{}
			if n >= count {
				want = whole(api.ErrIndex)
			}
			for place := range 4 {
				m := world()
				m.Exports = []api.Export{{Name: "a"}, {Name: "b", Kind: 2}, {Name: "c", Kind: 3}, {Name: "d", N: 4}}
				m.Exports[place] = api.Export{Name: "", Kind: kind, N: n}
				checks(t, "an export of the kind "+strconv.Itoa(kind)+", the number "+strconv.Itoa(n), m, want)
			}
		}
	}
	m := api.Module{Pages: -1, Start: -1}
	for kind := range have {
		m.Exports = []api.Export{{Name: "a", Kind: kind}}
		checks(t, "an export where there is nothing", m, whole(api.ErrIndex))
	}
	m = world()
	m.Pages, m.Most = 0, 0
	m.Exports = []api.Export{{Kind: 2}}
	passes(t, "a memory without pages", m)
	m.Pages = -1
	checks(t, "no memory", m, whole(api.ErrIndex))
}

// P5.1, point 2: a name that is told twice.
func TestP51ExportsNames(t *testing.T) {
	for _, name := range []string{"", "a", " ", "~", strings.Repeat("x", 32)} {
		for first := range 4 {
			for second := first + 1; second < 5; second++ {
				m := world()
				m.Exports = []api.Export{{Name: "1"}, {Name: "2", Kind: 2}, {Name: "3", Kind: 3}, {Name: "4", N: 3}, {Name: "5", Kind: 3, N: 3}}
				m.Exports[first].Name = name
				passes(t, "a name told once", m)
				m.Exports[second].Name = name
				checks(t, "a name told twice", m, whole(api.ErrThere))
				m.Exports[second] = m.Exports[first]
				checks(t, "an Export told twice", m, whole(api.ErrThere))
			}
		}
	}
	m := world()
	for _, name := range []string{"a", "A", "aa", "a ", "ab", "", "b", "ba"} {
		m.Exports = append(m.Exports, api.Export{Name: name, N: 2})
	}
	passes(t, "names that are nearly the same", m)
	m.Imports[0].Name = "a"
	passes(t, "a host's name is another matter", m)
	m.Exports = append(m.Exports, api.Export{Name: "a", N: worldFuncs}, api.Export{Name: "a"})
	checks(t, "what is not there comes ahead of the name that is told twice", m, whole(api.ErrIndex))
	m.Exports = []api.Export{{Name: "a"}, {Name: "a"}, {Name: "b", N: worldFuncs}}
	checks(t, "the first of two Exports that may not be", m, whole(api.ErrThere))
}

// P5.1, point 3: the start.
func TestP51Start(t *testing.T) {
	for n, text := range map[int]string{0: "il>l", 1: ">", 2: "i>i", 3: ">", 4: "li>il", 5: "", 6: "", 31: "", 32: "", 1<<32 - 1: "", -1: ">"} {
		m := bodyOf(">", "")
		m.Start = n
		want := map[bool]api.Fault{true: {}, false: whole(api.ErrType)}[text == ">"]
		if text == "" {
			want = whole(api.ErrIndex)
		}
		checks(t, "the start "+strconv.Itoa(n), m, want)
	}
	for _, text := range []string{"i>", "l>", ">i", ">l", "i>i", "ii>", ">ll"} {
		m := bodyOf(text, "00")
		m.Start = 3
		checks(t, "a start of the type "+text, m, whole(api.ErrType))
		m.Imports[1].Type = typeOf(&m, sig(text))
		m.Start = 1
		checks(t, "an imported start of the type "+text, m, whole(api.ErrType))
	}
	m := api.Module{Pages: -1}
	checks(t, "a start where there are no functions", m, whole(api.ErrIndex))
}

// P5.1, point 4: the Datas.
func TestP51Datas(t *testing.T) {
	for pages := range 4 {
		size := 256 * pages
		for _, count := range []int{0, 1, 2, 255, 256, 257, 512, 700} {
			for _, at := range []int{0, 1, 255, 256, 257, size - count - 1, size - count, size - count + 1, size - 1, size, size + 1, 1 << 20, 1<<32 - 1} {
				if at < 0 {
					continue
				}
				m := world()
				m.Pages, m.Most = pages, 16
				want := api.Fault{}
				if at+count > size {
					want = whole(api.TrapMem)
				}
				m.Datas = []api.Data{{At: at, Bytes: make([]byte, count)}}
				checks(t, strconv.Itoa(count)+" bytes at "+strconv.Itoa(at), m, want)
				m.Datas = []api.Data{{}, m.Datas[0], {At: size}}
				checks(t, "the second one of three", m, want)
				m.Datas = []api.Data{{}, {At: size}, m.Datas[1]}
				checks(t, "the last one of three", m, want)
			}
		}
	}
	for _, d := range []api.Data{{}, {At: 1 << 20}, {Bytes: []byte{1}}, {At: 5, Bytes: make([]byte, 300)}} {
		m := world()
		m.Pages, m.Most = -1, 0
		passes(t, "neither memory nor Data", m)
		m.Datas = []api.Data{d, {At: 900}}
		checks(t, "a Data without a memory", m, whole(api.ErrIndex))
	}
}

// turned is what is turned of a module, and the fault that it brings.
type turned struct {
	what string
	want api.Fault
	turn func(m *api.Module)
}

// inOrder are faults in the document's order, each of a part of its own but where one part has some. The module has three imports, functions, Exports and Datas.
func inOrder() []turned {
	const none = 99
	bodyFault := func(at int) api.Fault { return api.Fault{Why: api.ErrType, At: at, Op: 2} }
	wrong := func(at int) func(m *api.Module) {
		return func(m *api.Module) { m.Funcs[at].Body = ops("01 02 6a end 20:99") }
	}
	return []turned{
		{"not few", whole(api.ErrMany), func(m *api.Module) { m.Globals = make([]api.Global, 65) }},
		{"not encoded", whole(api.ErrForm), func(m *api.Module) { m.Most = 17 }},
		{"the first import", whole(api.ErrIndex), func(m *api.Module) { m.Imports[0].Type = none }},
		{"the last import", whole(api.ErrIndex), func(m *api.Module) { m.Imports[2].Type = none }},
		{"the first function's locals", whole(api.ErrMany), func(m *api.Module) { m.Funcs[0].Locals = kinds(strings.Repeat("i", 32)) }},
		{"the second function", whole(api.ErrIndex), func(m *api.Module) { m.Funcs[1].Type = none }},
		{"the second function's locals", whole(api.ErrMany), func(m *api.Module) { m.Funcs[1].Locals = kinds(strings.Repeat("i", 32)) }},
		{"the last function", whole(api.ErrIndex), func(m *api.Module) { m.Funcs[2].Type = none }},
		{"the first Export", whole(api.ErrIndex), func(m *api.Module) { m.Exports[0].N = none }},
		{"the second Export's name", whole(api.ErrThere), func(m *api.Module) { m.Exports[1].Name = "a" }},
		{"the last Export", whole(api.ErrIndex), func(m *api.Module) { m.Exports[2] = api.Export{Name: "c", Kind: 3, N: none} }},
		{"the last Export's name", whole(api.ErrThere), func(m *api.Module) { m.Exports[2].Name = "b" }},
		{"no start", whole(api.ErrIndex), func(m *api.Module) { m.Start = none }},
		{"the start's type", whole(api.ErrType), func(m *api.Module) { m.Start = 3 }},
		{"the first Data", whole(api.TrapMem), func(m *api.Module) { m.Datas[0].At = 256 }},
		{"the last Data", whole(api.TrapMem), func(m *api.Module) { m.Datas[2].At = 257 }},
		{"the first body", bodyFault(0), wrong(0)},
		{"the second body", bodyFault(1), wrong(1)},
		{"the last body", bodyFault(2), wrong(2)},
	}
}

func threeOfAll() api.Module {
	return api.Module{
		Types:   []api.Sig{{}, sig("i>")},
		Imports: []api.Import{{}, {Type: 1}, {}},
		Funcs:   []api.Func{{Type: 1}, {Type: 1}, {Type: 1}},
		Pages:   1, Most: 2, Start: 0,
		Exports: []api.Export{{Name: "a"}, {Name: "b", Kind: 2}, {Name: "c", Kind: 3}},
		Globals: []api.Global{{Type: 0x7e}},
		Datas:   []api.Data{{At: 255, Bytes: []byte{1}}, {At: 256}, {Bytes: make([]byte, 256)}},
	}
}

// P5.1: each fault by itself, and with each later one beside it.
func TestP51TheFirstOfTwoFaults(t *testing.T) {
	passes(t, "no fault", threeOfAll())
	l := inOrder()
	for i, first := range l {
		m := threeOfAll()
		first.turn(&m)
		checks(t, first.what, m, first.want)
		all := threeOfAll()
		for _, later := range slices.Backward(l[i+1:]) {
			m := threeOfAll()
			later.turn(&m)
			first.turn(&m)
			checks(t, first.what+", and "+later.what, m, first.want)
			later.turn(&all)
		}
		first.turn(&all)
		checks(t, first.what+", and all later ones", all, first.want)
	}
}
