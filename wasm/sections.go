package wasm

import (
	"bellcrank/api"
)

// decoder reads a module: last is its last section that counts, and bodies whether the one with bodies was there.
type decoder struct {
	*reader
	m      api.Module
	last   int
	bodies bool
}

// read reads all of a module. A wrong byte is caught here.
func read(b []byte) (m api.Module, fault api.Fault) {
	defer func() {
		if thrown := recover(); thrown != nil {
			w := thrown.(wrong)
			m, fault = api.Module{}, api.Fault{Why: w.why, At: w.at}
		}
	}()
	d := decoder{reader: &reader{b: b}, m: api.Module{Pages: -1, Start: -1}}
	d.begin()
	for d.at < len(b) {
		d.section()
	}
	if len(d.m.Funcs) > 0 && !d.bodies {
		fail(api.ErrForm, len(b))
	}
	return d.m, api.Fault{}
}

// begin reads the bytes that all modules begin with.
func (d *decoder) begin() {
	for i := range len(magic) {
		if d.octet() != int(magic[i]) {
			fail(api.ErrMagic, i)
		}
	}
}

// section reads the next section. One that does not count leaves the last one as it is.
func (d *decoder) section() {
	at := d.at
	sec := d.octet()
	switch {
	case sec == secTable || sec == secElems:
		fail(api.ErrFloat, at)
	case sec > secDatas || sec != secAny && sec <= d.last:
		fail(api.ErrForm, at)
	}
	part := d.part()
	if sec == secAny {
		return
	}
	d.last = sec
	d.fill(sec, part)
	part.close()
}

// fill reads what a section has into the module.
func (d *decoder) fill(sec int, r *reader) {
	m := &d.m
	switch sec {
	case secTypes:
		m.Types = list(r, api.MaxTypes, (*reader).sig)
	case secImports:
		m.Imports = list(r, api.MaxFuncs, (*reader).imported)
	case secFuncs:
		m.Funcs = list(r, api.MaxFuncs-len(m.Imports), (*reader).declared)
	case secMemory:
		d.memory(r)
	case secGlobals:
		m.Globals = list(r, api.MaxGlobs, (*reader).global)
	case secExports:
		m.Exports = list(r, api.MaxExps, (*reader).export)
	case secStart:
		m.Start = r.u()
	case secBodies:
		d.code(r)
	case secDatas:
		m.Datas = list(r, mostDatas, (*reader).data)
	}
}

func (r *reader) sig() api.Sig {
	r.one([]int{byteFunc})
	in := list(r, api.MaxParams, (*reader).kind)
	out := list(r, mostResults, (*reader).kind)
	return api.Sig{In: in, Out: out}
}

func (r *reader) imported() api.Import {
	mod, name := r.name(), r.name()
	r.one([]int{ofFunc}, ofTable, ofMemory, ofGlobal)
	return api.Import{Mod: mod, Name: name, Type: r.u()}
}

func (r *reader) declared() api.Func { return api.Func{Type: r.u()} }

// memory reads the memory, if there is one.
func (d *decoder) memory(r *reader) {
	if r.most(1) == 0 {
		return
	}
	told := r.one([]int{0, 1})
	d.m.Pages, d.m.Most = r.most(api.MaxPages), api.MaxPages
	if told == 0 {
		return
	}
	at := r.at
	d.m.Most = r.most(api.MaxPages)
	if d.m.Most < d.m.Pages {
		fail(api.ErrForm, at)
	}
}

func (r *reader) global() api.Global {
	kind := r.kind()
	mut := r.one([]int{0, 1}) == 1
	n := r.first(kind)
	r.one([]int{opEnd})
	return api.Global{Type: kind, Mut: mut, N: n}
}

// first reads the first value of a global.
func (r *reader) first(kind int) uint64 {
	at := r.at
	op := r.one([]int{opConst32, opConst64})
	if (op == opConst32) != (kind == api.I32) {
		fail(api.ErrType, at)
	}
	if op == opConst32 {
		return r.low32()
	}
	return uint64(r.s(64))
}

func (r *reader) export() api.Export {
	name := r.name()
	kind := r.one([]int{ofFunc, ofMemory, ofGlobal}, ofTable)
	return api.Export{Name: name, Kind: kind, N: r.u()}
}

func (r *reader) data() api.Data {
	at := r.at
	if r.u() != 0 {
		fail(api.ErrForm, at)
	}
	r.one([]int{opConst32})
	begin := int(r.low32())
	r.one([]int{opEnd})
	return api.Data{At: begin, Bytes: r.copied(r.most(mostData))}
}

// code reads the bodies of the functions that section 3 told of.
func (d *decoder) code(r *reader) {
	at := r.at
	if r.u() != len(d.m.Funcs) {
		fail(api.ErrForm, at)
	}
	d.bodies = true
	for i := range d.m.Funcs {
		part := r.part()
		f := &d.m.Funcs[i]
		f.Locals = part.locals()
		f.Body = part.body(d.m.Types)
		part.close()
	}
}

// locals reads rows of locals. What the rows ahead have is taken off what one may have.
func (r *reader) locals() []int {
	var l []int
	for range r.most(mostRows) {
		count := r.most(api.MaxLocals - len(l))
		kind := r.kind()
		for range count {
			l = append(l, kind)
		}
	}
	return l
}
