package typing

import (
	"slices"

	"bellcrank/api"
)

// module is one that layer 4 has taken, but for SigOf, which asks of any.
type module struct {
	api.Module
}

// ofModule is a fault that is no body's.
func ofModule(why api.Errno) api.Fault { return api.Fault{Why: why, At: -1} }

func fail(why api.Errno) { panic(ofModule(why)) }

// look answers the first fault of a module. A fault is thrown where it is found, as deep in a body as that may be, and caught here.
func look(m module) (fault api.Fault) {
	defer func() {
		if thrown := recover(); thrown != nil {
			fault = thrown.(api.Fault)
		}
	}()
	m.functions()
	m.exports()
	m.start()
	m.datas()
	for i := range m.Funcs {
		m.body(i)
	}
	return api.Fault{}
}

// typeOf answers the n-th type, if it is there.
func (m module) typeOf(n int) (api.Sig, bool) {
	if n < 0 || n >= len(m.Types) {
		return api.Sig{}, false
	}
	return m.Types[n], true
}

// sig answers the type of the n-th function, if both are there.
func (m module) sig(n int) (api.Sig, bool) {
	own := n - len(m.Imports)
	switch {
	case n < 0 || own >= len(m.Funcs):
		return api.Sig{}, false
	case own < 0:
		return m.typeOf(m.Imports[n].Type)
	}
	return m.typeOf(m.Funcs[own].Type)
}

// known answers the type of the n-th function, which must be there.
func (m module) known(n int) api.Sig {
	s, ok := m.sig(n)
	if !ok {
		fail(api.ErrIndex)
	}
	return s
}

func (m module) hasMemory() bool { return m.Pages >= 0 }

// functions looks at the types of all functions.
func (m module) functions() {
	for i := range m.Imports {
		m.known(i)
	}
	for i, f := range m.Funcs {
		if len(m.known(len(m.Imports)+i).In)+len(f.Locals) > api.MaxLocals {
			fail(api.ErrMany)
		}
	}
}

// exports looks at what the names stand for. A name is held against those ahead of it alone, so that it is the second one of two that is too many.
func (m module) exports() {
	for i, e := range m.Exports {
		if e.N >= m.howMany(e.Kind) {
			fail(api.ErrIndex)
		}
		if slices.ContainsFunc(m.Exports[:i], func(ahead api.Export) bool { return ahead.Name == e.Name }) {
			fail(api.ErrThere)
		}
	}
}

// howMany answers how many there are of what an Export of this kind may stand for. Layer 4 takes no other kinds.
func (m module) howMany(kind int) int {
	switch {
	case kind == ofFunc:
		return len(m.Imports) + len(m.Funcs)
	case kind == ofGlobal:
		return len(m.Globals)
	case m.hasMemory():
		return 1
	}
	return 0
}

// start looks at the function that is called first, if there is one.
func (m module) start() {
	if m.Start == -1 {
		return
	}
	s := m.known(m.Start)
	if len(s.In) > 0 || len(s.Out) > 0 {
		fail(api.ErrType)
	}
}

// datas looks at the places of bytes in the memory that the module begins with.
func (m module) datas() {
	for _, d := range m.Datas {
		if !m.hasMemory() {
			fail(api.ErrIndex)
		}
		if d.At+len(d.Bytes) > m.Pages*api.Page {
			fail(api.TrapMem)
		}
	}
}
