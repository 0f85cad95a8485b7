package ssa

import (
	"slices"

	"bellcrank/api"
)

const (
	mostSigs     = 64   // the most Sigs of an environment
	mostParams   = 256  // the most Params of a block
	mostCode     = 4096 // the most instructions of a function
	mostElements = 4096 // the most elements of any list of a function
)

// few tells whether a function is small enough to be looked at: its lists, and its instructions.
func few(f api.Fn) bool {
	return fits(f.Sig.In) && fits(f.Sig.Out) && fits(f.Types) && fits(f.Blocks) &&
		!slices.ContainsFunc(f.Blocks, longBlock) && count(f) <= mostCode
}

func fits[T any](l []T) bool { return len(l) <= mostElements }

func longBlock(b api.Block) bool {
	return !fits(b.Params) || !fits(b.Code) || slices.ContainsFunc(b.Code, longIns) ||
		!fits(b.Term.To) || slices.ContainsFunc(b.Term.To, longEdge) || !fits(b.Term.Args)
}

func longIns(in api.Ins) bool { return !fits(in.Args) || !fits(in.Outs) }

func longEdge(e api.Edge) bool { return !fits(e.Args) }

func count(f api.Fn) int {
	n := 0
	for _, b := range f.Blocks {
		n += len(b.Code)
	}
	return n
}

// sized tells whether a function has no more of anything than it may, and types where types stand.
func sized(f api.Fn) bool {
	return few(f) && len(f.Blocks) >= 1 && len(f.Blocks) <= api.MaxBlocks &&
		!slices.ContainsFunc(f.Blocks, func(b api.Block) bool { return len(b.Params) > mostParams }) &&
		len(f.Types) <= api.MaxValues && allTypes(f.Types) && !wrongSig(f.Sig)
}

func wrongSig(s api.Sig) bool {
	return len(s.In) > api.MaxParams || len(s.Out) > api.MaxParams || !allTypes(s.In) || !allTypes(s.Out)
}

func allTypes(l []int) bool {
	return !slices.ContainsFunc(l, func(t int) bool { return t != api.I32 && t != api.I64 })
}
