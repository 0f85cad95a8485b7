package typing

import (
	"slices"

	"bellcrank/api"
)

// anyType is what is taken where nothing lies, as what stands there never runs. It is no value's type.
const anyType = 0

// frame is a block that is open, or the body itself: where its stack begins, what it answers, what a branch to it takes along, and whether what comes next in it never runs.
type frame struct {
	begin int
	out   []int
	label []int
	dead  bool
}

// open puts a frame on the others, with what it takes on its stack.
func (b *body) open(in, out, label []int) {
	b.frames = append(b.frames, frame{begin: len(b.stack), out: out, label: label})
	b.put(in...)
}

// close takes what the innermost frame answers, which must be all that is there, and the frame.
func (b *body) close() {
	f := b.inner()
	b.takeAll(f.out)
	if len(b.stack) > f.begin {
		b.fail(api.ErrType)
	}
	b.frames = b.frames[:len(b.frames)-1]
}

func (b *body) inner() *frame { return &b.frames[len(b.frames)-1] }

// label answers what a branch to the n-th frame takes along, counted from the innermost one.
func (b *body) label(n uint64) []int {
	if n >= uint64(len(b.frames)) {
		b.fail(api.ErrIndex)
	}
	return b.frames[len(b.frames)-1-int(n)].label
}

// die empties the innermost frame's stack: what follows never runs, and may find there what it likes.
func (b *body) die() {
	f := b.inner()
	f.dead = true
	b.stack = b.stack[:f.begin]
}

func (b *body) put(l ...int) { b.stack = append(b.stack, l...) }

// takeAny takes whatever type lies on top of the innermost frame's stack.
func (b *body) takeAny() int {
	f := b.inner()
	top := len(b.stack) - 1
	if top < f.begin {
		if !f.dead {
			b.fail(api.ErrType)
		}
		return anyType
	}
	t := b.stack[top]
	b.stack = b.stack[:top]
	return t
}

// take takes a type, or any.
func (b *body) take(want int) {
	if t := b.takeAny(); t != want && t != anyType {
		b.fail(api.ErrType)
	}
}

// takeAll takes types, the last one first, as that lies on top.
func (b *body) takeAll(l []int) {
	for _, t := range slices.Backward(l) {
		b.take(t)
	}
}
