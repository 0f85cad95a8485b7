package spec

import (
	"bellcrank/api"
	"bellcrank/mem"
	"bellcrank/num"
)

func (b *body) put(l ...uint64) { b.stack = append(b.stack, l...) }

func (b *body) top() uint64 { return b.stack[len(b.stack)-1] }

// take takes the number on top.
func (b *body) take() uint64 {
	n := b.top()
	b.stack = b.stack[:len(b.stack)-1]
	return n
}

// takeAll takes so many numbers from the top, the last one on top. They stand in the stack's memory up to the next one that is put there.
func (b *body) takeAll(count int) []uint64 {
	from := len(b.stack) - count
	l := b.stack[from:]
	b.stack = b.stack[:from]
	return l
}

// choose leaves the first of two numbers, or the second one.
func (b *body) choose() {
	n, second := b.take(), b.take()
	if n == 0 {
		b.take()
		b.put(second)
	}
}

// grow puts pages behind the memory, or leaves it as it is.
func (b *body) grow() {
	grown, had := mem.Grow(b.Mem, b.Most, b.take())
	b.Mem = grown
	b.put(had)
}

// other does an access, or an operator of numbers.
func (b *body) other(in api.Instr) {
	_, _, store, is := mem.Access(in.Op)
	switch {
	case !is:
		b.number(in.Op)
	case store:
		b.store(in)
	default:
		n, why := mem.Load(b.Mem, in.Op, b.take(), in.N)
		check(why)
		b.put(n)
	}
}

// store writes a number into the memory, which a trap leaves as it is.
func (b *body) store(in api.Instr) {
	n, addr := b.take(), b.take()
	written, why := mem.Store(b.Mem, in.Op, addr, in.N, n)
	check(why)
	b.Mem = written
}

func (b *body) number(op int) {
	in, _, _ := num.Sig(op)
	n, why := num.Eval(op, b.takeAll(len(in))...)
	check(why)
	b.put(n)
}
