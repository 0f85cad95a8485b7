package typing

import (
	"bellcrank/api"
	"bellcrank/mem"
	"bellcrank/num"
)

// plain checks an operator whose types hang on nothing but itself.
func (b *body) plain(op int) {
	switch op {
	case opConst32:
		b.put(api.I32)
	case opConst64:
		b.put(api.I64)
	case opSize:
		b.needMemory()
		b.put(api.I32)
	case opGrow:
		b.needMemory()
		b.take(api.I32)
		b.put(api.I32)
	default:
		b.other(op)
	}
}

// other checks an access, or an operator of numbers: layer 4 has taken nothing else.
func (b *body) other(op int) {
	kind, _, store, is := mem.Access(op)
	switch {
	case !is:
		in, out, _ := num.Sig(op)
		b.takeAll(in)
		b.put(out)
	case store:
		b.needMemory()
		b.take(kind)
		b.take(api.I32)
	default:
		b.needMemory()
		b.take(api.I32)
		b.put(kind)
	}
}

func (b *body) needMemory() {
	if !b.hasMemory() {
		b.fail(api.ErrIndex)
	}
}
