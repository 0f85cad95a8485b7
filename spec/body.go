package spec

import (
	"bellcrank/api"
	"bellcrank/typing"
)

// body is a function's body that is under way. Its types are known to be right, so that what is taken from the stack is there.
type body struct {
	*run
	locals []uint64
	stack  []uint64
}

// What doing operators answers is how many frames a branch leaves, the one that it goes to with them.
const (
	onward = 0               // there was no branch: what comes next is done
	home   = api.MaxNest + 1 // all that there can be: a return
)

// do does operators one behind the other, up to a branch.
func (b *body) do(l []api.Instr) int {
	for _, in := range l {
		if left := b.operator(in); left != onward {
			return left
		}
	}
	return onward
}

// operator does one operator, with what is in it.
func (b *body) operator(in api.Instr) int {
	switch in.Op {
	case opTrap:
		fail(api.TrapEnd)
	case opBlock:
		return b.block(in.Type, in.Body)
	case opLoop:
		return b.loop(in.Type, in.Body)
	case opIf:
		if b.take() != 0 {
			return b.block(in.Type, in.Body)
		}
		return b.block(in.Type, in.Else)
	case opBr:
		return to(int(in.N))
	case opBrIf:
		if b.take() != 0 {
			return to(int(in.N))
		}
	case opBrTable:
		return to(pick(in.Targets, b.take()))
	case opReturn:
		return home
	default:
		b.plain(in)
	}
	return onward
}

// to is a branch to the n-th frame, counted from the innermost one.
func to(n int) int { return n + 1 }

// pick answers the n-th target, or the last one, if there are not so many ahead of it.
func pick(targets []int, n uint64) int {
	return targets[min(n, uint64(len(targets)-1))]
}

// beyond is what is left of a branch outside of a frame that it leaves.
func beyond(left int) int { return max(left-1, onward) }

// block does what is in a block, or in a branch of an if.
func (b *body) block(sig api.Sig, l []api.Instr) int {
	beneath := len(b.stack) - len(sig.In)
	left := b.do(l)
	if left == to(0) {
		b.keep(beneath, len(sig.Out))
	}
	return beyond(left)
}

// loop does what is in a loop, again and again, as long as branches go to it.
func (b *body) loop(sig api.Sig, l []api.Instr) int {
	beneath := len(b.stack) - len(sig.In)
	for {
		b.tick()
		left := b.do(l)
		if left != to(0) {
			return beyond(left)
		}
		b.keep(beneath, len(sig.In))
	}
}

// keep leaves of the stack what lies beneath, and so many numbers of its top.
func (b *body) keep(beneath, count int) {
	top := b.takeAll(count)
	b.stack = b.stack[:beneath]
	b.put(top...)
}

// plain does an operator that branches nowhere.
func (b *body) plain(in api.Instr) {
	switch in.Op {
	case opNop:
	case opCall:
		sig, _ := typing.SigOf(b.m, int(in.N))
		b.put(b.call(int(in.N), b.takeAll(len(sig.In)))...)
	case opDrop:
		b.take()
	case opSelect:
		b.choose()
	case opLocalGet:
		b.put(b.locals[in.N])
	case opLocalSet:
		b.locals[in.N] = b.take()
	case opLocalTee:
		b.locals[in.N] = b.top()
	case opGlobGet:
		b.put(b.Globals[in.N])
	case opGlobSet:
		b.Globals[in.N] = b.take()
	case opConst32, opConst64:
		b.put(in.N)
	case opSize:
		b.put(uint64(len(b.Mem) / api.Page))
	case opGrow:
		b.grow()
	default:
		b.other(in)
	}
}
