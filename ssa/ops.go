package ssa

import (
	"bellcrank/api"
	"bellcrank/mem"
	"bellcrank/num"
)

// The operators that are neither an access nor one of numbers, and that a module has too.
const (
	opCall    = 0x10
	opSelect  = 0x1b
	opGlobGet = 0x23
	opGlobSet = 0x24
	opSize    = 0x3f
	opGrow    = 0x40
)

const (
	mostEnd    = 1 << 33   // the greatest N of a check
	mostOffset = 1<<32 - 1 // the greatest N of an access
)

// want is what an instruction has to be: the types of its Args and of its Outs, and the greatest N.
type want struct {
	in   []int
	out  []int
	most uint64
}

// asks is the want of Args of these types, without Outs, and without an N.
func asks(types ...int) want { return want{in: types} }

func (w want) gives(types ...int) want {
	w.out = types
	return w
}

func (w want) upTo(n uint64) want {
	w.most = n
	return w
}

// want answers what an instruction has to be, by its operator, and whether there is such a one.
func (l *look) want(in api.Ins) (want, bool) {
	switch in.Op {
	case api.OpTick:
		return asks(), true
	case api.OpConst:
		t := l.typeOfFirst(in.Outs)
		return asks().gives(t).upTo(in.N), num.Fits(t, in.N)
	case opSelect:
		t := l.typeOfFirst(in.Args)
		return asks(t, t, api.I32).gives(t), t != noType
	case opGlobGet, opGlobSet:
		return l.wantOfGlobal(in)
	case opCall:
		if in.N >= uint64(len(l.env.Sigs)) {
			return want{}, false
		}
		s := l.env.Sigs[in.N]
		return asks(s.In...).gives(s.Out...).upTo(in.N), true
	}
	if types, t, is := num.Sig(in.Op); is {
		return asks(types...).gives(t), true
	}
	return wantOfMemory(in.Op, l.env.Mem)
}

func (l *look) wantOfGlobal(in api.Ins) (want, bool) {
	if in.N >= uint64(len(l.env.Globals)) {
		return want{}, false
	}
	t := l.env.Globals[in.N]
	if in.Op == opGlobGet {
		return asks().gives(t).upTo(in.N), true
	}
	return asks(t).upTo(in.N), l.env.Muts[in.N]
}

// wantOfMemory answers it of an operator that there is with a memory alone.
func wantOfMemory(op int, memory bool) (want, bool) {
	switch op {
	case api.OpCheck:
		return asks(api.I32).upTo(mostEnd), memory
	case opSize:
		return asks().gives(api.I32), memory
	case opGrow:
		return asks(api.I32).gives(api.I32), memory
	}
	t, _, store, is := mem.Access(op)
	if store {
		return asks(api.I32, t).upTo(mostOffset), memory
	}
	return asks(api.I32).gives(t).upTo(mostOffset), memory && is
}
