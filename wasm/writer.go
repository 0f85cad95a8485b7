package wasm

import (
	"slices"

	"bellcrank/api"
	"bellcrank/leb"
	"bellcrank/mem"
)

// writer puts bytes one behind the other. It takes no more when it has more than a module may have: that is refused anyway, and long lists in many operators could be more than there is memory for.
type writer struct {
	b []byte
}

func (w *writer) full() bool { return len(w.b) > api.MaxBytes }

func (w *writer) put(b ...byte) {
	if !w.full() {
		w.b = append(w.b, b...)
	}
}

// u puts a number without a sign. One below 0 becomes one that the reader refuses.
func (w *writer) u(n int) { w.unsigned(uint64(n)) }

func (w *writer) unsigned(n uint64) {
	if !w.full() {
		w.b = append(w.b, leb.PutU(nil, n)...)
	}
}

// s puts a number with a sign.
func (w *writer) s(n int64) {
	if !w.full() {
		w.b = append(w.b, leb.PutS(nil, n)...)
	}
}

// const32 puts 41 and a number of which the low bits are n's.
func (w *writer) const32(n uint64) {
	w.put(opConst32)
	w.s(int64(int32(n)))
}

// const64 puts 42 and n.
func (w *writer) const64(n uint64) {
	w.put(opConst64)
	w.s(int64(n))
}

func (w *writer) kind(t int) { w.put(byte(t)) }

func (w *writer) name(text string) {
	w.u(len(text))
	w.put([]byte(text)...)
}

// part puts how many bytes a part has, and these.
func (w *writer) part(p writer) {
	w.u(len(p.b))
	w.put(p.b...)
}

// counted puts a count, and what is in a list.
func counted[T any](w *writer, l []T, one func(*writer, T)) {
	w.u(len(l))
	for _, x := range l {
		one(w, x)
	}
}

// section puts a section of what is in a list, if something is.
func section[T any](w *writer, sec byte, l []T, one func(*writer, T)) {
	if len(l) == 0 {
		return
	}
	var p writer
	counted(&p, l, one)
	w.put(sec)
	w.part(p)
}

// write answers the bytes of a module that is few. What no bytes can say is left out or cut.
func write(m api.Module) []byte {
	w := writer{b: []byte(magic)}
	section(&w, secTypes, m.Types, (*writer).sig)
	section(&w, secImports, m.Imports, (*writer).imported)
	section(&w, secFuncs, m.Funcs, (*writer).declared)
	if m.Pages >= 0 {
		section(&w, secMemory, []api.Module{m}, (*writer).memory)
	}
	section(&w, secGlobals, m.Globals, (*writer).global)
	section(&w, secExports, m.Exports, (*writer).export)
	if m.Start >= 0 {
		var p writer
		p.u(m.Start)
		w.put(secStart)
		w.part(p)
	}
	section(&w, secBodies, m.Funcs, bodies(m.Types))
	section(&w, secDatas, m.Datas, (*writer).data)
	return w.b
}

func (w *writer) sig(s api.Sig) {
	w.put(byteFunc)
	counted(w, s.In, (*writer).kind)
	counted(w, s.Out, (*writer).kind)
}

func (w *writer) imported(i api.Import) {
	w.name(i.Mod)
	w.name(i.Name)
	w.put(ofFunc)
	w.u(i.Type)
}

func (w *writer) declared(f api.Func) { w.u(f.Type) }

func (w *writer) memory(m api.Module) {
	w.put(1)
	w.u(m.Pages)
	w.u(m.Most)
}

func (w *writer) global(g api.Global) {
	w.kind(g.Type)
	if g.Mut {
		w.put(1)
	} else {
		w.put(0)
	}
	if g.Type == api.I32 {
		w.const32(g.N)
	} else {
		w.const64(g.N)
	}
	w.put(opEnd)
}

func (w *writer) export(e api.Export) {
	w.name(e.Name)
	w.put(byte(e.Kind))
	w.u(e.N)
}

func (w *writer) data(d api.Data) {
	w.u(0)
	w.const32(uint64(d.At))
	w.put(opEnd)
	w.u(len(d.Bytes))
	w.put(d.Bytes...)
}

// bodies answers what puts a function's body, in a module of these types.
func bodies(types []api.Sig) func(*writer, api.Func) {
	return func(w *writer, f api.Func) {
		p := coding{types: types}
		counted(&p.writer, f.Locals, (*writer).row)
		p.run(f.Body)
		p.put(opEnd)
		w.part(p.writer)
	}
}

// row puts a row of one local.
func (w *writer) row(kind int) {
	w.u(1)
	w.kind(kind)
}

// coding puts the operators of one function.
type coding struct {
	writer
	types []api.Sig
}

func (c *coding) run(l []api.Instr) {
	for _, in := range l {
		c.put(byte(in.Op))
		c.rest(in)
	}
}

// rest puts what an operator has behind its byte.
func (c *coding) rest(in api.Instr) {
	switch in.Op {
	case opBlock, opLoop, opIf:
		c.block(in)
	case opBr, opBrIf, opCall, opLocalGet, opLocalSet, opLocalTee, opGlobGet, opGlobSet:
		c.unsigned(in.N)
	case opBrTable:
		c.u(len(in.Targets) - 1)
		for _, to := range in.Targets {
			c.u(to)
		}
	case opSize, opGrow:
		c.put(0)
	case opConst32:
		c.s(int64(int32(in.N)))
	case opConst64:
		c.s(int64(in.N))
	}
	if _, _, _, is := mem.Access(in.Op); is {
		c.unsigned(in.M)
		c.unsigned(in.N)
	}
}

func (c *coding) block(in api.Instr) {
	c.blockType(in.Type)
	c.run(in.Body)
	if in.HasElse {
		c.put(opElse)
		c.run(in.Else)
	}
	c.put(opEnd)
}

// blockType puts the shortest form of a block's type. One that the module has not becomes -1, which is no type's number.
func (c *coding) blockType(s api.Sig) {
	switch {
	case len(s.In) == 0 && len(s.Out) == 0:
		c.put(byteEmpty)
	case len(s.In) == 0 && len(s.Out) == 1:
		c.kind(s.Out[0])
	default:
		c.s(int64(slices.IndexFunc(c.types, func(t api.Sig) bool { return sameSig(t, s) })))
	}
}
