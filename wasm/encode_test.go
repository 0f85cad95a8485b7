package wasm_test

import (
	"bytes"
	"math"
	"slices"
	"testing"

	"bellcrank/api"
	"bellcrank/wasm"
)

// encodesTo holds Encode of a module against bytes in hexadecimal, behind the first ones.
func encodesTo(t *testing.T, what, text string, turn func(m *api.Module)) {
	t.Helper()
	m := empty()
	turn(&m)
	encodes(t, what, m, join(head(), bytesOf(text)))
}

// withBody is a module with one function of the first of some types.
func withBody(l ...api.Instr) func(m *api.Module) {
	return func(m *api.Module) {
		m.Types = []api.Sig{{Out: []int{0x7f}}, {}, {In: []int{0x7f}}, {In: []int{0x7f}}, {Out: []int{0x7f, 0x7e}}}
		m.Funcs = []api.Func{{Body: l}}
	}
}

// bodyTo holds Encode of a function's operators against bytes in hexadecimal.
func bodyTo(t *testing.T, text string, l ...api.Instr) {
	t.Helper()
	m := empty()
	withBody(l...)(&m)
	has := join([]byte{0}, bytesOf(text), []byte{0x0b})
	types := sec(1, bytesOf("05 60 00 01 7f 60 00 00 60 01 7f 00 60 01 7f 00 60 00 02 7f 7e"))
	encodes(t, text, m, mod(types, sec(3, bytesOf("01 00")), sec(10, u(1), u(uint64(len(has))), has)))
}

func TestP42EncodeSections(t *testing.T) {
	encodesTo(t, "nothing", "", func(*api.Module) {})
	encodesTo(t, "zeros: a memory of no pages, and a start", "05 04 01 01 00 00 08 01 00", func(m *api.Module) { *m = api.Module{} })
	encodesTo(t, "types", "01 0a 02 60 01 7f 02 7e 7f 60 00 00", func(m *api.Module) {
		m.Types = []api.Sig{{In: []int{0x7f}, Out: []int{0x7e, 0x7f}}, {}}
	})
	encodesTo(t, "imports", "02 10 02 02 61 62 01 63 00 05 00 00 00 ff ff ff ff 0f", func(m *api.Module) {
		m.Imports = []api.Import{{Mod: "ab", Name: "c", Type: 5}, {Type: 1<<32 - 1}}
	})
	encodesTo(t, "functions", "03 04 02 07 80 01 0a 0b 02 02 00 0b 06 02 01 7e 01 7e 0b", func(m *api.Module) {
		m.Funcs = []api.Func{{Type: 7}, {Type: 128, Locals: []int{0x7e, 0x7e}}}
	})
	encodesTo(t, "a memory", "05 04 01 01 02 10", func(m *api.Module) { m.Pages, m.Most = 2, 16 })
	encodesTo(t, "a memory of no pages", "05 04 01 01 00 00", func(m *api.Module) { m.Pages, m.Most = 0, 0 })
	encodesTo(t, "globals", "06 0c 02 7f 00 41 7f 0b 7e 01 42 80 01 0b", func(m *api.Module) {
		m.Globals = []api.Global{{Type: 0x7f, N: 1<<32 - 1}, {Type: 0x7e, Mut: true, N: 128}}
	})
	encodesTo(t, "globals at their ends", "06 21 03 7f 01 41 80 80 80 80 78 0b 7f 00 41 ff ff ff ff 07 0b 7e 00 42 80 80 80 80 80 80 80 80 80 7f 0b", func(m *api.Module) {
		m.Globals = []api.Global{{Type: 0x7f, Mut: true, N: 1 << 31}, {Type: 0x7f, N: 1<<31 - 1}, {Type: 0x7e, N: 1 << 63}}
	})
	encodesTo(t, "exports", "07 0c 03 01 61 00 03 00 02 00 01 62 03 7f", func(m *api.Module) {
		m.Exports = []api.Export{{Name: "a", N: 3}, {Kind: 2}, {Name: "b", Kind: 3, N: 127}}
	})
	encodesTo(t, "a start", "08 01 00", func(m *api.Module) { m.Start = 0 })
	encodesTo(t, "a far start", "08 02 80 01", func(m *api.Module) { m.Start = 128 })
	encodesTo(t, "datas", "0b 10 02 00 41 c0 00 0b 02 05 06 00 41 80 80 7e 0b 00", func(m *api.Module) {
		m.Datas = []api.Data{{At: 64, Bytes: []byte{5, 6}}, {At: 1<<32 - 1<<15}}
	})
	encodesTo(t, "all of them", "01 04 01 60 00 00 02 06 01 00 01 61 00 00 03 02 01 00 05 04 01 01 01 02 06 06 01 7f 00 41 00 0b 07 04 01 00 00 00 08 01 01 0a 04 01 02 00 0b 0b 06 01 00 41 00 0b 00", func(m *api.Module) {
		m.Types, m.Imports, m.Funcs = []api.Sig{{}}, []api.Import{{Name: "a"}}, []api.Func{{}}
		m.Pages, m.Most, m.Start = 1, 2, 1
		m.Globals, m.Exports, m.Datas = []api.Global{{Type: 0x7f}}, []api.Export{{}}, []api.Data{{}}
	})
	// A length of two groups.
	m := empty()
	m.Datas = []api.Data{{Bytes: make([]byte, 300)}}
	encodes(t, "a long data", m, mod(join([]byte{11}, bytesOf("b3 02 01 00 41 00 0b ac 02"), make([]byte, 300))))
}

func TestP42EncodeOperators(t *testing.T) {
	type list = []api.Instr
	bodyTo(t, "")
	bodyTo(t, "00 01 0f 1a 1b 45 c4", in(0), in(1), in(0x0f), in(0x1a), in(0x1b), in(0x45), in(0xc4))
	bodyTo(t, "41 3f 41 c0 00 41 40 41 bf 7f 41 80 80 80 80 78", api.Instr{Op: 0x41, N: 63}, api.Instr{Op: 0x41, N: 64},
		api.Instr{Op: 0x41, N: 1<<32 - 64}, api.Instr{Op: 0x41, N: 1<<32 - 65}, api.Instr{Op: 0x41, N: 1 << 31})
	bodyTo(t, "42 7f 42 80 80 80 80 10 42 80 80 80 80 80 80 80 80 80 7f", api.Instr{Op: 0x42, N: 1<<64 - 1}, api.Instr{Op: 0x42, N: 1 << 32}, api.Instr{Op: 0x42, N: 1 << 63})
	bodyTo(t, "0c 00 0d 7f 10 80 01 20 ff ff ff ff 0f 21 01 22 02 23 03 24 04", api.Instr{Op: 0x0c}, api.Instr{Op: 0x0d, N: 127}, api.Instr{Op: 0x10, N: 128},
		api.Instr{Op: 0x20, N: 1<<32 - 1}, api.Instr{Op: 0x21, N: 1}, api.Instr{Op: 0x22, N: 2}, api.Instr{Op: 0x23, N: 3}, api.Instr{Op: 0x24, N: 4})
	bodyTo(t, "0e 00 09 0e 02 01 80 01 ff ff ff ff 0f", api.Instr{Op: 0x0e, Targets: []int{9}}, api.Instr{Op: 0x0e, Targets: []int{1, 128, 1<<32 - 1}})
	bodyTo(t, "28 00 00 29 03 80 01 3e 02 ff ff ff ff 0f", api.Instr{Op: 0x28}, api.Instr{Op: 0x29, M: 3, N: 128}, api.Instr{Op: 0x3e, M: 2, N: 1<<32 - 1})
	bodyTo(t, "3f 00 40 00", in(0x3f), in(0x40))
	bodyTo(t, "02 40 01 0b 03 40 0b 04 40 0b 04 40 05 0b", api.Instr{Op: 2, Body: list{in(1)}}, in(3), in(4), api.Instr{Op: 4, HasElse: true})
	bodyTo(t, "04 40 00 05 01 02 40 0b 0b 1a", api.Instr{Op: 4, Body: list{in(0)}, Else: list{in(1), in(2)}, HasElse: true}, in(0x1a))
	// A block's type in as few bytes as can be: none and one by itself, also where the module has it; else the first number.
	bodyTo(t, "02 40 0b", in(2))
	bodyTo(t, "03 7f 0b", api.Instr{Op: 3, Type: api.Sig{Out: []int{0x7f}}})
	bodyTo(t, "04 7e 0b", api.Instr{Op: 4, Type: api.Sig{Out: []int{0x7e}}})
	bodyTo(t, "02 02 0b", api.Instr{Op: 2, Type: api.Sig{In: []int{0x7f}}})
	bodyTo(t, "02 04 0b", api.Instr{Op: 2, Type: api.Sig{Out: []int{0x7f, 0x7e}}})
}

func TestP42EncodeLocals(t *testing.T) {
	for count := range 33 {
		m := empty()
		m.Types = []api.Sig{{}}
		m.Funcs = []api.Func{{Locals: slices.Repeat([]int{0x7f}, count)}}
		has := join(u(uint64(count)), bytes.Repeat([]byte{1, 0x7f}, count), []byte{0x0b})
		encodes(t, "locals of one type", m, mod(sec(1, bytesOf("01 60 00 00")), sec(3, bytesOf("01 00")), sec(10, u(1), body(has))))
	}
}

func TestP42EncodeGenerated(t *testing.T) {
	for seed := range 300 {
		d := dice(seed)
		m := d.module()
		encodes(t, "a module", m, shortest().write(m))
	}
	encodes(t, "a rich module", rich(), shortest().write(rich()))
}

// Each field by itself: Encode takes a module just if it is what the document's words make of its bytes.
func TestP42EncodeEachField(t *testing.T) {
	t.Parallel()
	modules := []api.Module{{}, empty(), rich()}
	for seed := range 10 {
		d := dice(seed)
		modules = append(modules, d.module())
	}
	taken, refused := 0, 0
	for _, m := range modules {
		turned(m, func(where string, v api.Module) {
			want := shortest().write(v)
			back, fault, _ := decode(want)
			if fault.Why == api.OK && equal(back, v) {
				taken++
				encodes(t, "a module with"+where, v, want)
				return
			}
			refused++
			refuses(t, "a module with"+where, v)
		})
	}
	if taken < 1000 || refused < 1000 {
		t.Error("the modules are too much alike:", taken, "taken,", refused, "refused")
	}
}

func TestP42EncodeRefuses(t *testing.T) {
	sig := func(in, out int) api.Sig {
		return api.Sig{In: slices.Repeat([]int{0x7f}, in), Out: slices.Repeat([]int{0x7e}, out)}
	}
	for what, turn := range map[string]func(m *api.Module){
		"33 types":                     func(m *api.Module) { m.Types = make([]api.Sig, 33) },
		"a type of nine parameters":    func(m *api.Module) { m.Types = []api.Sig{sig(9, 0)} },
		"a type of nine results":       func(m *api.Module) { m.Types = []api.Sig{sig(0, 9)} },
		"a type of floats":             func(m *api.Module) { m.Types = []api.Sig{{In: []int{0x7d}}} },
		"a type of nothing":            func(m *api.Module) { m.Types = []api.Sig{{Out: []int{0}}} },
		"a type that is cut":           func(m *api.Module) { m.Types = []api.Sig{{Out: []int{0x17f}}} },
		"a type below 0":               func(m *api.Module) { m.Types = []api.Sig{{Out: []int{0x7f - 0x100}}} },
		"33 imports":                   func(m *api.Module) { m.Imports = make([]api.Import, 33) },
		"imports and functions":        func(m *api.Module) { m.Imports, m.Funcs = make([]api.Import, 16), make([]api.Func, 17) },
		"an import of a wrong name":    func(m *api.Module) { m.Imports = []api.Import{{Mod: "a\x7f"}} },
		"an import of another one":     func(m *api.Module) { m.Imports = []api.Import{{Name: "\x1f"}} },
		"an import's type below 0":     func(m *api.Module) { m.Imports = []api.Import{{Type: -1}} },
		"an import's type above":       func(m *api.Module) { m.Imports = []api.Import{{Type: 1 << 32}} },
		"33 functions":                 func(m *api.Module) { m.Funcs = make([]api.Func, 33) },
		"a function's type below 0":    func(m *api.Module) { m.Funcs = []api.Func{{Type: -1}} },
		"a function's type above":      func(m *api.Module) { m.Funcs = []api.Func{{Type: 1 << 32}} },
		"33 locals":                    func(m *api.Module) { m.Funcs = []api.Func{{Locals: slices.Repeat([]int{0x7f}, 33)}} },
		"a local of no type":           func(m *api.Module) { m.Funcs = []api.Func{{Locals: []int{0x7f, 0x7c}}} },
		"a local that is cut":          func(m *api.Module) { m.Funcs = []api.Func{{Locals: []int{0x27e}}} },
		"pages below none":             func(m *api.Module) { m.Pages = -2 },
		"17 pages":                     func(m *api.Module) { m.Pages, m.Most = 17, 17 },
		"a most above":                 func(m *api.Module) { m.Pages, m.Most = 1, 17 },
		"a most below the pages":       func(m *api.Module) { m.Pages, m.Most = 2, 1 },
		"a most below 0":               func(m *api.Module) { m.Pages, m.Most = 0, -1 },
		"a most without a memory":      func(m *api.Module) { m.Most = 16 },
		"33 globals":                   func(m *api.Module) { m.Globals = slices.Repeat([]api.Global{{Type: 0x7f}}, 33) },
		"a global of no type":          func(m *api.Module) { m.Globals = []api.Global{{}} },
		"a global of floats":           func(m *api.Module) { m.Globals = []api.Global{{Type: 0x7d}} },
		"a global that does not fit":   func(m *api.Module) { m.Globals = []api.Global{{Type: 0x7f, N: 1 << 32}} },
		"a global with a sign":         func(m *api.Module) { m.Globals = []api.Global{{Type: 0x7f, N: math.MaxUint64}} },
		"33 exports":                   func(m *api.Module) { m.Exports = make([]api.Export, 33) },
		"an export of a table":         func(m *api.Module) { m.Exports = []api.Export{{Kind: 1}} },
		"an export of no kind":         func(m *api.Module) { m.Exports = []api.Export{{Kind: 4}} },
		"an export that is cut":        func(m *api.Module) { m.Exports = []api.Export{{Kind: 0x102}} },
		"an export of a wrong name":    func(m *api.Module) { m.Exports = []api.Export{{Name: "\n"}} },
		"an export of number -1":       func(m *api.Module) { m.Exports = []api.Export{{N: -1}} },
		"an export of number 2^32":     func(m *api.Module) { m.Exports = []api.Export{{N: 1 << 32}} },
		"a start below none":           func(m *api.Module) { m.Start = -2 },
		"the least start":              func(m *api.Module) { m.Start = math.MinInt },
		"a start above":                func(m *api.Module) { m.Start = 1 << 32 },
		"33 datas":                     func(m *api.Module) { m.Datas = make([]api.Data, 33) },
		"a data below 0":               func(m *api.Module) { m.Datas = []api.Data{{At: -1}} },
		"a data above":                 func(m *api.Module) { m.Datas = []api.Data{{At: 1 << 32}} },
		"a data of 4097 bytes":         func(m *api.Module) { m.Datas = []api.Data{{Bytes: make([]byte, 4097)}} },
		"more bytes than may be":       func(m *api.Module) { m.Datas = slices.Repeat([]api.Data{{Bytes: make([]byte, 4096)}}, 4) },
		"a name that is too long":      func(m *api.Module) { m.Exports = []api.Export{{Name: string(make([]byte, 33))}} },
		"an operator below 0":          withBody(in(-1)),
		"an operator of floats":        withBody(in(0x2a)),
		"a call through a table":       withBody(in(0x11)),
		"no operator":                  withBody(in(0xff)),
		"an operator that is cut":      withBody(in(0x16a)),
		"an operator of SSA form":      withBody(in(api.OpConst)),
		"an end":                       withBody(in(0x0b)),
		"an else":                      withBody(in(0x05)),
		"a sum with N":                 withBody(api.Instr{Op: 0x6a, N: 1}),
		"a sum with M":                 withBody(api.Instr{Op: 0x6a, M: 1}),
		"a sum with a type":            withBody(api.Instr{Op: 0x6a, Type: sig(0, 1)}),
		"a sum with a body":            withBody(api.Instr{Op: 0x6a, Body: []api.Instr{in(1)}}),
		"a sum with an else":           withBody(api.Instr{Op: 0x6a, Else: []api.Instr{in(1)}}),
		"a sum that has one":           withBody(api.Instr{Op: 0x6a, HasElse: true}),
		"a sum with targets":           withBody(api.Instr{Op: 0x6a, Targets: []int{0}}),
		"a number with M":              withBody(api.Instr{Op: 0x20, M: 1}),
		"a number of more than 32":     withBody(api.Instr{Op: 0x20, N: 1 << 32}),
		"a constant of more than 32":   withBody(api.Instr{Op: 0x41, N: 1 << 32}),
		"a constant with a sign":       withBody(api.Instr{Op: 0x41, N: math.MaxUint64}),
		"a constant with M":            withBody(api.Instr{Op: 0x42, M: 1}),
		"a page's number":              withBody(api.Instr{Op: 0x3f, N: 1}),
		"an access that is too wide":   withBody(api.Instr{Op: 0x2c, M: 1}),
		"an access of great M":         withBody(api.Instr{Op: 0x29, M: 4}),
		"an access of M cut":           withBody(api.Instr{Op: 0x29, M: 1 << 32}),
		"an access of great N":         withBody(api.Instr{Op: 0x29, N: 1 << 32}),
		"a table without targets":      withBody(api.Instr{Op: 0x0e}),
		"a table of 66 targets":        withBody(api.Instr{Op: 0x0e, Targets: make([]int, 66)}),
		"a target below 0":             withBody(api.Instr{Op: 0x0e, Targets: []int{0, -1}}),
		"a target above":               withBody(api.Instr{Op: 0x0e, Targets: []int{1 << 32, 0}}),
		"a table with N":               withBody(api.Instr{Op: 0x0e, N: 1, Targets: []int{0}}),
		"a block with N":               withBody(api.Instr{Op: 2, N: 1}),
		"a block with an else":         withBody(api.Instr{Op: 2, HasElse: true}),
		"a loop with an else's list":   withBody(api.Instr{Op: 3, Else: []api.Instr{in(1)}}),
		"an if whose else is hidden":   withBody(api.Instr{Op: 4, Else: []api.Instr{in(1)}}),
		"a block of a type not there":  withBody(api.Instr{Op: 2, Type: sig(2, 0)}),
		"a block of a type turned":     withBody(api.Instr{Op: 2, Type: api.Sig{Out: []int{0x7e, 0x7f}}}),
		"a block of a longer type":     withBody(api.Instr{Op: 2, Type: api.Sig{Out: []int{0x7f, 0x7e, 0x7e}}}),
		"a block of a shorter type":    withBody(api.Instr{Op: 2, Type: api.Sig{In: []int{0x7e}}}),
		"a block of a float":           withBody(api.Instr{Op: 2, Type: api.Sig{Out: []int{0x7d}}}),
		"a block of a number's byte":   withBody(api.Instr{Op: 2, Type: api.Sig{Out: []int{4}}}),
		"a block of 40":                withBody(api.Instr{Op: 2, Type: api.Sig{Out: []int{0x40}}}),
		"a block of a type that's cut": withBody(api.Instr{Op: 2, Type: api.Sig{Out: []int{0x17f}}}),
		"17 blocks":                    withBody(nest(17, 2, false)[0].Body[0], nest(16, 3, false)[0], nest(17, 2, false)[0]),
		"513 operators":                withBody(make([]api.Instr, 513)...),
		"an inner operator":            withBody(api.Instr{Op: 2, Body: []api.Instr{{Op: 4, HasElse: true, Else: []api.Instr{in(6)}}}}),
	} {
		m := empty()
		turn(&m)
		before := clone(m)
		refuses(t, what, m)
		if !equal(m, before) {
			t.Errorf("%s: Encode turned %v into %v", what, before, m)
		}
	}
}

func TestP42EncodeAtLimits(t *testing.T) {
	m := empty()
	m.Types = slices.Repeat([]api.Sig{{In: slices.Repeat([]int{0x7f}, 8), Out: slices.Repeat([]int{0x7e}, 8)}}, 32)
	m.Imports = slices.Repeat([]api.Import{{Mod: "01234567890123456789012345678901", Name: "abcdefghijklmnopqrstuvwxyzABCDEF", Type: 1<<32 - 1}}, 31)
	m.Funcs = []api.Func{{Type: 1<<32 - 1, Locals: slices.Repeat([]int{0x7e}, 32), Body: slices.Repeat([]api.Instr{{Op: 0x20, N: 1<<32 - 1}}, 512)}}
	m.Pages, m.Most, m.Start = 16, 16, 1<<32-1
	m.Globals = slices.Repeat([]api.Global{{Type: 0x7e, Mut: true, N: math.MaxUint64}}, 32)
	m.Exports = slices.Repeat([]api.Export{{Name: "01234567890123456789012345678901", Kind: 3, N: 1<<32 - 1}}, 32)
	m.Datas = slices.Repeat([]api.Data{{At: 1<<32 - 1, Bytes: []byte{1, 2}}}, 32)
	m.Datas[31].Bytes = make([]byte, 4096)
	encodes(t, "a module at its limits", m, shortest().write(m))
	// Just as many bytes as may be, and one more.
	big := func(last int) api.Module {
		m := empty()
		m.Datas = slices.Repeat([]api.Data{{Bytes: make([]byte, 4000)}}, 4)
		m.Datas = append(m.Datas, api.Data{Bytes: make([]byte, last)})
		return m
	}
	room := 1<<14 - len(shortest().write(big(300)))
	encodes(t, "just as many bytes as may be", big(300+room), shortest().write(big(300+room)))
	refuses(t, "one byte more", big(301+room))
	if b, why := wasm.Encode(big(300 + room)); len(b) != 1<<14 || why != api.OK {
		t.Error("the test's own bytes are", len(b), why)
	}
}
