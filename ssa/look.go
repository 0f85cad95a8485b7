package ssa

import (
	"slices"

	"bellcrank/api"
	"bellcrank/graph"
)

const (
	none    = -1 // stands for a block, where there is none
	noType  = 0  // stands for a type, where there is none
	mostTos = 65 // the most To of a table
)

// spot is a place in a function: a block, and how many instructions are begun there. Params are made at 0.
type spot struct {
	block int
	at    int
}

// look looks at a function in an environment. It knows of each value where it is made, and of each block its nearest dominator.
type look struct {
	env     api.Env
	fn      api.Fn
	home    []spot
	nearest []int
}

// homes finds where each value is made, and tells whether only values are made, each once at most.
func (l *look) homes() bool {
	l.home = slices.Repeat([]spot{{block: none}}, len(l.fn.Types))
	for b, block := range l.fn.Blocks {
		if !l.settle(spot{b, 0}, block.Params) {
			return false
		}
		for i, in := range block.Code {
			if !l.settle(spot{b, i + 1}, in.Outs) {
				return false
			}
		}
	}
	return true
}

func (l *look) settle(s spot, values []int) bool {
	for _, v := range values {
		if !isPlace(len(l.home), v) || l.home[v].block != none {
			return false
		}
		l.home[v] = s
	}
	return true
}

// ends tells whether all ends, and block 0's Params, are as they have to be.
func (l *look) ends() bool {
	if !l.typed(l.fn.Blocks[0].Params, l.fn.Sig.In) {
		return false
	}
	for _, b := range l.fn.Blocks {
		if !l.end(b.Term) || slices.ContainsFunc(b.Term.To, l.wrongEdge) {
			return false
		}
	}
	return true
}

// end tells whether an end has of To, Arg and Args just what its Kind asks for.
func (l *look) end(t api.Term) bool {
	to := len(t.To)
	switch t.Kind {
	case api.EndBr:
		return to == 1 && t.Arg == 0 && len(t.Args) == 0
	case api.EndIf:
		return to == 2 && l.typeOf(t.Arg) == api.I32 && len(t.Args) == 0
	case api.EndTable:
		return to >= 1 && to <= mostTos && l.typeOf(t.Arg) == api.I32 && len(t.Args) == 0
	case api.EndReturn:
		return to == 0 && t.Arg == 0 && l.typed(t.Args, l.fn.Sig.Out)
	case api.EndTrap:
		return to == 0 && t.Arg == 0 && len(t.Args) == 0
	}
	return false
}

func (l *look) wrongEdge(e api.Edge) bool {
	return e.To == 0 || !isPlace(len(l.fn.Blocks), e.To) ||
		!slices.EqualFunc(e.Args, l.fn.Blocks[e.To].Params, l.sameType)
}

// reached finds the nearest dominators, and tells whether all blocks are reached.
func (l *look) reached() bool {
	nearest, why := graph.Nearest(Succ(l.fn))
	l.nearest = nearest
	return why == api.OK && !slices.Contains(nearest[1:], none)
}

// blocks tells whether all instructions are as they have to be, and all that is asked for is there.
func (l *look) blocks() bool {
	for b := range l.fn.Blocks {
		if !l.block(b) {
			return false
		}
	}
	return true
}

func (l *look) block(b int) bool {
	block, over := &l.fn.Blocks[b], l.dominators(b)
	for i, in := range block.Code {
		if !l.right(in) {
			return false
		}
		for _, v := range in.Args {
			if !l.isThere(v, spot{b, i + 1}, over) {
				return false
			}
		}
	}
	right := true
	askedByEnd(&block.Term, func(place *int) {
		right = right && l.isThere(*place, spot{b, len(block.Code) + 1}, over)
	})
	return right
}

// dominators tells of each block whether it dominates b.
func (l *look) dominators(b int) []bool {
	over := make([]bool, len(l.fn.Blocks))
	for ; b != none; b = l.nearest[b] {
		over[b] = true
	}
	return over
}

// isThere tells whether a value is made ahead of a spot, over being the blocks that dominate that.
func (l *look) isThere(v int, s spot, over []bool) bool {
	home := l.home[v]
	switch home.block {
	case none:
		return false
	case s.block:
		return home.at < s.at
	}
	return over[home.block]
}

// right tells whether an instruction is as its operator has it.
func (l *look) right(in api.Ins) bool {
	w, is := l.want(in)
	return is && in.N <= w.most && l.typed(in.Args, w.in) && l.typed(in.Outs, w.out)
}

// typeOf answers a value's type. What is no value has none.
func (l *look) typeOf(v int) int {
	if !isPlace(len(l.fn.Types), v) {
		return noType
	}
	return l.fn.Types[v]
}

func (l *look) typeOfFirst(values []int) int {
	if len(values) == 0 {
		return noType
	}
	return l.typeOf(values[0])
}

func (l *look) sameType(a, b int) bool { return l.typeOf(a) == l.typeOf(b) }

// typed tells whether values have these types, one by one.
func (l *look) typed(values, types []int) bool {
	return slices.EqualFunc(values, types, func(v, t int) bool { return l.typeOf(v) == t })
}

// ticking tells whether the first instruction is a tick, and no way goes round without one: each way from a block without a tick must come to an end, or to a block with one.
func ticking(f api.Fn) bool {
	if code := f.Blocks[0].Code; len(code) == 0 || code[0].Op != api.OpTick {
		return false
	}
	halts := make([]bool, len(f.Blocks))
	for b, block := range f.Blocks {
		halts[b] = slices.ContainsFunc(block.Code, func(in api.Ins) bool { return in.Op == api.OpTick })
	}
	for turned := true; turned; {
		turned = false
		for b, block := range slices.Backward(f.Blocks) {
			if !halts[b] && !slices.ContainsFunc(block.Term.To, func(e api.Edge) bool { return !halts[e.To] }) {
				halts[b], turned = true, true
			}
		}
	}
	return !slices.Contains(halts, false)
}
