package ssa

import (
	"slices"

	"bellcrank/api"
)

func sameSig(a, b api.Sig) bool { return slices.Equal(a.In, b.In) && slices.Equal(a.Out, b.Out) }

func sameBlock(a, b api.Block) bool {
	return slices.Equal(a.Params, b.Params) && slices.EqualFunc(a.Code, b.Code, sameIns) && sameEnd(a.Term, b.Term)
}

func sameIns(a, b api.Ins) bool {
	return a.Op == b.Op && a.N == b.N && slices.Equal(a.Args, b.Args) && slices.Equal(a.Outs, b.Outs)
}

func sameEnd(a, b api.Term) bool {
	return a.Kind == b.Kind && a.Arg == b.Arg && slices.EqualFunc(a.To, b.To, sameEdge) && slices.Equal(a.Args, b.Args)
}

func sameEdge(a, b api.Edge) bool { return a.To == b.To && slices.Equal(a.Args, b.Args) }

// copied answers a function in memory of its own.
func copied(f api.Fn) api.Fn {
	out := api.Fn{Sig: api.Sig{In: slices.Clone(f.Sig.In), Out: slices.Clone(f.Sig.Out)}, Types: slices.Clone(f.Types)}
	for _, b := range f.Blocks {
		out.Blocks = append(out.Blocks, copiedBlock(b))
	}
	return out
}

func copiedBlock(b api.Block) api.Block {
	b.Params, b.Code = slices.Clone(b.Params), slices.Clone(b.Code)
	for i, in := range b.Code {
		b.Code[i].Args, b.Code[i].Outs = slices.Clone(in.Args), slices.Clone(in.Outs)
	}
	b.Term.To, b.Term.Args = slices.Clone(b.Term.To), slices.Clone(b.Term.Args)
	for i, edge := range b.Term.To {
		b.Term.To[i].Args = slices.Clone(edge.Args)
	}
	return b
}
