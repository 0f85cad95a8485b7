package typing

import (
	"slices"

	"bellcrank/api"
)

// body is a checker of one function's body. It has in it all that its module has.
type body struct {
	module
	at     int // its number among Funcs
	op     int // the operator that faults are told of
	ops    int // how many operators there were so far
	locals []int
	stack  []int
	frames []frame
}

// body checks the n-th of Funcs. What is wrong at its end is told behind its last operator.
func (m module) body(n int) {
	sig, f := m.known(len(m.Imports)+n), m.Funcs[n]
	b := body{module: m, at: n, locals: slices.Concat(sig.In, f.Locals)}
	b.open(nil, sig.Out, sig.Out)
	b.run(f.Body)
	b.op = b.ops
	b.close()
}

// fail throws a fault of the operator that is looked at.
func (b *body) fail(why api.Errno) { panic(api.Fault{Why: why, At: b.at, Op: b.op}) }

// run checks operators one behind the other, and counts them.
func (b *body) run(l []api.Instr) {
	for _, in := range l {
		b.op = b.ops
		b.ops++
		b.operator(in)
	}
}

// operator checks one operator, with what is in it.
func (b *body) operator(in api.Instr) {
	switch in.Op {
	case opNop:
	case opTrap:
		b.die()
	case opBlock, opLoop, opIf:
		b.block(in)
	case opBr:
		b.takeAll(b.label(in.N))
		b.die()
	case opBrIf:
		b.branchIf(in.N)
	case opBrTable:
		b.table(in.Targets)
	case opReturn:
		b.takeAll(b.frames[0].out)
		b.die()
	case opCall:
		b.call(in.N)
	case opDrop:
		b.takeAny()
	case opSelect:
		b.choose()
	case opLocalGet, opLocalSet, opLocalTee:
		b.local(in)
	case opGlobGet, opGlobSet:
		b.global(in)
	default:
		b.plain(in.Op)
	}
}

// block checks a block with what is in it.
func (b *body) block(in api.Instr) {
	own, sig := b.op, in.Type
	label := sig.Out
	switch in.Op {
	case opLoop:
		label = sig.In
	case opIf:
		b.take(api.I32)
	}
	b.takeAll(sig.In)
	b.within(in.Body, sig, label, own)
	if in.HasElse {
		b.within(in.Else, sig, label, own)
	} else if in.Op == opIf && !slices.Equal(sig.In, sig.Out) {
		b.fail(api.ErrType)
	}
	b.put(sig.Out...)
}

// within checks operators in a frame of their own. An end has no number, so that what is wrong there is told of the block's operator.
func (b *body) within(l []api.Instr, sig api.Sig, label []int, own int) {
	b.open(sig.In, sig.Out, label)
	b.run(l)
	b.op = own
	b.close()
}

// branchIf puts back what the branch would take along, for what follows it if there is none.
func (b *body) branchIf(n uint64) {
	label := b.label(n)
	b.take(api.I32)
	b.takeAll(label)
	b.put(label...)
}

// table checks a table of branches. What another one than the last takes is put back, as all find the same stack.
func (b *body) table(targets []int) {
	b.take(api.I32)
	end := len(targets) - 1
	last := b.label(uint64(targets[end]))
	for _, to := range targets[:end] {
		label := b.label(uint64(to))
		if len(label) != len(last) {
			b.fail(api.ErrType)
		}
		b.takeAll(label)
		b.put(label...)
	}
	b.takeAll(last)
	b.die()
}

// call checks a call. The number is one of 32 bits, as layer 4 has taken it.
func (b *body) call(n uint64) {
	sig, ok := b.sig(int(n))
	if !ok {
		b.fail(api.ErrIndex)
	}
	b.takeAll(sig.In)
	b.put(sig.Out...)
}

// choose checks the choice of one of two. Where the first one taken is any type, the other one says which.
func (b *body) choose() {
	b.take(api.I32)
	t := b.takeAny()
	if t == anyType {
		t = b.takeAny()
	} else {
		b.take(t)
	}
	b.put(t)
}

// pick answers the n-th of a list, which there must be.
func pick[T any](b *body, l []T, n uint64) T {
	if n >= uint64(len(l)) {
		b.fail(api.ErrIndex)
	}
	return l[n]
}

func (b *body) local(in api.Instr) {
	t := pick(b, b.locals, in.N)
	if in.Op != opLocalGet {
		b.take(t)
	}
	if in.Op != opLocalSet {
		b.put(t)
	}
}

func (b *body) global(in api.Instr) {
	g := pick(b, b.Globals, in.N)
	switch {
	case in.Op == opGlobGet:
		b.put(g.Type)
	case g.Mut:
		b.take(g.Type)
	default:
		b.fail(api.ErrForm)
	}
}
