package wasm_test

import (
	"slices"

	"bellcrank/api"
)

// form is how a module is written: the one way of the document, or a longer one that says the same.
type form struct {
	more  int    // groups more of each number, as far as there may be
	rows  bool   // locals of one type stand in a row together
	block bool   // a block's type is the last number that it has, if it has one
	most  bool   // a memory's most is told also where it need not be
	none  bool   // sections that have nothing stand there too
	any0  []byte // a section 0 of these bytes stands between all others
}

// shortest is the one way of the document.
func shortest() form { return form{most: true} }

// longer are ways that say the same.
func longer() []form {
	return []form{
		{},
		{more: 1},
		{more: 2, most: true},
		{more: 9},
		{rows: true},
		{block: true},
		{none: true},
		{any0: []byte{}, most: true},
		{any0: []byte{0, 1, 255, 4}, none: true},
		{more: 4, rows: true, block: true, none: true, any0: []byte{9}},
	}
}

func (f form) u(n int) []byte { return f.unsigned(uint64(n)) }

func (f form) unsigned(n uint64) []byte {
	b := u(n)
	return wide(b, max(0, min(f.more, 5-len(b))), false)
}

func (f form) s(n int64, most int) []byte {
	b := s(n)
	return wide(b, max(0, min(f.more, most-len(b))), true)
}

func (f form) s32(n uint64) []byte { return f.s(int64(int32(n)), 5) }

func (f form) s64(n uint64) []byte { return f.s(int64(n), 10) }

// list is a count, and what is in a list.
func list[T any](f form, l []T, one func(T) []byte) []byte {
	out := f.u(len(l))
	for _, x := range l {
		out = join(out, one(x))
	}
	return out
}

func (f form) name(text string) []byte { return join(f.u(len(text)), []byte(text)) }

func (f form) part(b []byte) []byte { return join(f.u(len(b)), b) }

func (f form) kinds(l []int) []byte { return list(f, l, func(t int) []byte { return []byte{byte(t)} }) }

func truth(x bool) byte {
	if x {
		return 1
	}
	return 0
}

// write is a module in bytes. Of what no bytes can say some are written, which say something else.
func (f form) write(m api.Module) []byte {
	out := head()
	put := func(id byte, there bool, has []byte) {
		if f.any0 != nil {
			out = join(out, []byte{0}, f.part(f.any0))
		}
		if there || f.none && id != 8 {
			out = join(out, []byte{id}, f.part(has))
		}
	}
	put(1, len(m.Types) > 0, list(f, m.Types, func(s api.Sig) []byte { return join([]byte{0x60}, f.kinds(s.In), f.kinds(s.Out)) }))
	put(2, len(m.Imports) > 0, list(f, m.Imports, func(i api.Import) []byte {
		return join(f.name(i.Mod), f.name(i.Name), []byte{0}, f.u(i.Type))
	}))
	put(3, len(m.Funcs) > 0, list(f, m.Funcs, func(x api.Func) []byte { return f.u(x.Type) }))
	memory := f.u(0)
	if m.Pages >= 0 {
		memory = f.memory(m)
	}
	put(5, m.Pages >= 0, memory)
	put(6, len(m.Globals) > 0, list(f, m.Globals, f.global))
	put(7, len(m.Exports) > 0, list(f, m.Exports, func(e api.Export) []byte {
		return join(f.name(e.Name), []byte{byte(e.Kind)}, f.u(e.N))
	}))
	put(8, m.Start >= 0, f.u(m.Start))
	put(10, len(m.Funcs) > 0, list(f, m.Funcs, func(x api.Func) []byte {
		return f.part(join(f.locals(x.Locals), f.body(x.Body, m.Types), []byte{0x0b}))
	}))
	put(11, len(m.Datas) > 0, list(f, m.Datas, func(d api.Data) []byte {
		return join(f.u(0), []byte{0x41}, f.s32(uint64(d.At)), []byte{0x0b}, f.part(d.Bytes))
	}))
	put(0, f.any0 != nil, nil)
	return out
}

func (f form) memory(m api.Module) []byte {
	if m.Most == 16 && !f.most {
		return join(f.u(1), []byte{0}, f.u(m.Pages))
	}
	return join(f.u(1), []byte{1}, f.u(m.Pages), f.u(m.Most))
}

func (f form) global(g api.Global) []byte {
	first := join([]byte{0x42}, f.s64(g.N))
	if g.Type == 0x7f {
		first = join([]byte{0x41}, f.s32(g.N))
	}
	return join([]byte{byte(g.Type), truth(g.Mut)}, first, []byte{0x0b})
}

func (f form) locals(l []int) []byte {
	if !f.rows {
		return list(f, l, func(t int) []byte { return join(f.u(1), []byte{byte(t)}) })
	}
	var rows [][]byte
	for i := 0; i < len(l); {
		end := i + 1
		for end < len(l) && l[end] == l[i] {
			end++
		}
		rows = append(rows, join(f.u(end-i), []byte{byte(l[i])}))
		i = end
	}
	return join(f.u(len(rows)), join(rows...))
}

func (f form) body(l []api.Instr, types []api.Sig) []byte {
	var out []byte
	for _, x := range l {
		out = append(out, byte(x.Op))
		out = append(out, f.behind(x, types)...)
	}
	return out
}

// behind is what stands behind an operator's byte.
func (f form) behind(x api.Instr, types []api.Sig) []byte {
	switch {
	case within(x.Op, blockBytes):
		out := join(f.blockType(x.Type, types), f.body(x.Body, types))
		if x.HasElse {
			out = join(out, []byte{0x05}, f.body(x.Else, types))
		}
		return append(out, 0x0b)
	case within(x.Op, numberBytes):
		return f.unsigned(x.N)
	case x.Op == 0x0e:
		out := f.u(len(x.Targets) - 1)
		for _, to := range x.Targets {
			out = append(out, f.u(to)...)
		}
		return out
	case within(x.Op, accessBytes):
		return join(f.unsigned(x.M), f.unsigned(x.N))
	case within(x.Op, zeroBytes):
		return []byte{0}
	case x.Op == 0x41:
		return f.s32(x.N)
	case x.Op == 0x42:
		return f.s64(x.N)
	}
	return nil
}

func (f form) blockType(s api.Sig, types []api.Sig) []byte {
	number := -1
	for i, t := range types {
		if equal(t, s) && (f.block || number < 0) {
			number = i
		}
	}
	switch {
	case f.block && number >= 0:
		return f.s(int64(number), 10)
	case equal(s, api.Sig{}):
		return []byte{0x40}
	case len(s.In) == 0 && len(s.Out) == 1 && slices.Contains([]int{0x7f, 0x7e}, s.Out[0]):
		return []byte{byte(s.Out[0])}
	}
	return f.s(int64(number), 10)
}
