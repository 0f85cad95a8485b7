package wasm

import (
	"slices"

	"bellcrank/api"
	"bellcrank/mem"
	"bellcrank/num"
)

// coder reads the operators of one function: ops is how many it has had so far.
type coder struct {
	*reader
	types []api.Sig
	ops   int
}

// body reads the operators of a function, and the end that belongs to them.
func (r *reader) body(types []api.Sig) []api.Instr {
	c := coder{reader: r, types: types}
	l, _ := c.run(0, false)
	return l
}

// run reads operators within depth blocks up to their end, or up to an Else, where one may stand, and tells whether it was that.
func (c *coder) run(depth int, parted bool) (l []api.Instr, other bool) {
	for {
		at := c.at
		op := c.octet()
		if op == opEnd {
			return l, false
		}
		if op == opElse && parted {
			return l, true
		}
		c.admit(at, op, depth)
		l = append(l, c.operator(at, op, depth))
	}
}

// admit counts an operator. An Else that belongs to nothing is refused later, as it is none.
func (c *coder) admit(at, op, depth int) {
	if op == opElse {
		return
	}
	c.ops++
	block := op == opBlock || op == opLoop || op == opIf
	if c.ops > api.MaxOps || block && depth >= api.MaxNest {
		fail(api.ErrMany, at)
	}
}

// operator reads what an operator has behind its byte.
func (c *coder) operator(at, op, depth int) api.Instr {
	in := api.Instr{Op: op}
	switch op {
	case opTrap, opNop, opReturn, opDrop, opSelect:
	case opBlock, opLoop, opIf:
		in.Type = c.blockType()
		in.Body, in.HasElse = c.run(depth+1, op == opIf)
		if in.HasElse {
			in.Else, _ = c.run(depth+1, false)
		}
	case opBr, opBrIf, opCall, opLocalGet, opLocalSet, opLocalTee, opGlobGet, opGlobSet:
		in.N = uint64(c.u())
	case opBrTable:
		in.Targets = c.targets()
	case opSize, opGrow:
		c.one([]int{0})
	case opConst32:
		in.N = c.low32()
	case opConst64:
		in.N = uint64(c.s(64))
	default:
		c.other(at, &in)
	}
	return in
}

// other reads the rest of an access, or of an operator of numbers, which has none.
func (c *coder) other(at int, in *api.Instr) {
	if _, _, is := num.Sig(in.Op); is {
		return
	}
	if _, width, _, is := mem.Access(in.Op); is {
		in.M = c.align(width)
		in.N = uint64(c.u())
		return
	}
	if leftOut(in.Op) {
		fail(api.ErrFloat, at)
	}
	fail(api.ErrForm, at)
}

// blockType reads the type of a block. A byte that says what type a value has is read as everywhere, also one that is left out; what is none, and not empty, is a number, read from the same byte on.
func (c *coder) blockType() api.Sig {
	at := c.at
	switch c.octet() {
	case byteEmpty:
		return api.Sig{}
	case api.I32, api.I64, byteF32, byteF64:
		c.at = at
		return api.Sig{Out: []int{c.kind()}}
	}
	c.at = at
	n := c.s(64)
	if n < 0 || n >= int64(len(c.types)) {
		fail(api.ErrIndex, at)
	}
	// Lists of its own, as the type itself is answered too.
	t := c.types[n]
	return api.Sig{In: slices.Clone(t.In), Out: slices.Clone(t.Out)}
}

// targets reads a table's targets, of which the last one is not counted.
func (c *coder) targets() []int {
	l := list(c.reader, mostTargets, (*reader).u)
	return append(l, c.u())
}

// align reads the number of which the power of 2 says where an access of so many bytes should stand.
func (c *coder) align(width int) uint64 {
	at := c.at
	n := c.u()
	if n > mostAlign || 1<<n > width {
		fail(api.ErrForm, at)
	}
	return uint64(n)
}

// leftOut tells whether a byte is an operator of floating numbers, or calls through a table.
func leftOut(op int) bool {
	switch op {
	case 0x11, 0x2a, 0x2b, 0x38, 0x39, 0x43, 0x44:
		return true
	}
	return op >= 0x5b && op <= 0x66 || op >= 0x8b && op <= 0xa6 || op >= 0xa8 && op <= 0xab || op >= 0xae && op <= 0xbf
}
