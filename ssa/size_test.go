package ssa_test

import (
	"math"
	"slices"
	"strings"
	"testing"

	"bellcrank/api"
	"bellcrank/ssa"
)

var tick = api.Ins{Op: api.OpTick}

// chain is a function of so many blocks, each of which goes to the next one.
func chain(count int) api.Fn {
	f := api.Fn{Blocks: make([]api.Block, count)}
	for b := range f.Blocks {
		f.Blocks[b].Term = api.Term{Kind: api.EndBr, To: []api.Edge{{To: b + 1}}}
	}
	if count > 0 {
		f.Blocks[0].Code = []api.Ins{tick}
		f.Blocks[count-1].Term = api.Term{Kind: api.EndTrap}
	}
	return f
}

// example is the chapter's.
func example() api.Fn {
	return api.Fn{
		Sig: api.Sig{Out: []int{api.I32}}, Types: []int{api.I32},
		Blocks: []api.Block{{
			Code: []api.Ins{{Op: api.OpTick}, {Op: api.OpConst, N: 5, Outs: []int{0}}},
			Term: api.Term{Kind: api.EndReturn, Args: []int{0}},
		}},
	}
}

// P8.1: the chapter's example.
func TestP81Example(t *testing.T) {
	checks(t, "the example", api.Env{}, example(), "")
	checks(t, "the example in the world", world(), example(), "")
	if !equal(example(), fn(">i", "i", "| tick; const#5 = 0 | ret 0")) {
		t.Error("the test reads functions wrong")
	}
}

// P8.1: from 1 to 256 blocks.
func TestP81Blocks(t *testing.T) {
	checks(t, "nothing at all", world(), api.Fn{}, "blocks")
	checks(t, "an empty list of blocks", world(), api.Fn{Blocks: []api.Block{}}, "blocks")
	for _, count := range []int{1, 2, 3, 255, 256} {
		checks(t, "blocks", world(), chain(count), "")
	}
	for _, count := range []int{257, 258, 1000, 4096} {
		checks(t, "too many blocks", world(), chain(count), "blocks")
	}
	checks(t, "far too many blocks", world(), chain(4097), "blocks, list")
}

// withParams is a function whose block 1 has so many Params.
func withParams(count int) api.Fn {
	f := fn("i>", "i", "0 | tick | br 1/| | trap")
	for range count {
		f.Blocks[0].Term.To[0].Args = append(f.Blocks[0].Term.To[0].Args, 0)
		f.Blocks[1].Params = append(f.Blocks[1].Params, len(f.Types))
		f.Types = append(f.Types, api.I32)
	}
	return f
}

// P8.1: at most 256 Params of each block.
func TestP81Params(t *testing.T) {
	for count, rule := range map[int]string{0: "", 1: "", 8: "", 9: "", 255: "", 256: "", 257: "params", 258: "params", 2047: "params"} {
		checks(t, "Params of a block", world(), withParams(count), rule)
	}
	checks(t, "very many Params", world(), withParams(1<<16), "list, params, types")
}

// P8.1: at most 2048 Types, all of them ones that there are.
func TestP81Types(t *testing.T) {
	f := example()
	for _, count := range []int{1, 2, 2047, 2048} {
		f.Types = slices.Repeat([]int{api.I32}, count)
		checks(t, "Types", world(), f, "")
		f.Types[count-1] = api.I64
		if count > 1 {
			checks(t, "Types, the last one another", world(), f, "")
		}
	}
	f.Types = slices.Repeat([]int{api.I32}, 2049)
	checks(t, "too many Types", world(), f, "types")
	f.Types = slices.Repeat([]int{api.I32}, 4097)
	checks(t, "far too many Types", world(), f, "list, types")
	for _, wrong := range []int{0, 1, 0x40, 0x70, 0x7b, 0x7c, 0x7d, 0x80, -1, 0x7f + 1<<8, 0x7e + 1<<32, -0x7f, math.MinInt, math.MaxInt} {
		f.Types = []int{api.I32, wrong}
		checks(t, "a type of a value that nothing makes", world(), f, "types")
		f.Types = append(slices.Repeat([]int{api.I64}, 2047), wrong)
		f.Types[0] = api.I32
		checks(t, "a type as the last one", world(), f, "types")
	}
}

// P8.1: at most 4096 instructions, in all.
func TestP81Code(t *testing.T) {
	for _, count := range []int{2, 4095, 4096} {
		f := chain(1)
		f.Blocks[0].Code = slices.Repeat([]api.Ins{tick}, count)
		checks(t, "instructions of a block", world(), f, "")
	}
	f := chain(1)
	f.Blocks[0].Code = slices.Repeat([]api.Ins{tick}, 4097)
	checks(t, "too many instructions of a block", world(), f, "code, list")
	for _, first := range []int{1, 2, 2048, 4095} {
		f = chain(3)
		f.Blocks[0].Code = slices.Repeat([]api.Ins{tick}, first)
		f.Blocks[2].Code = slices.Repeat([]api.Ins{tick}, 4096-first)
		checks(t, "instructions of blocks", world(), f, "")
		f.Blocks[1].Code = []api.Ins{tick}
		checks(t, "one more", world(), f, "code")
	}
	f = chain(256)
	for b := range f.Blocks {
		f.Blocks[b].Code = slices.Repeat([]api.Ins{tick}, 16)
	}
	checks(t, "instructions of all blocks", world(), f, "")
	f.Blocks[255].Code = append(f.Blocks[255].Code, tick)
	checks(t, "one more of the last block", world(), f, "code")
}

// P8.1: the Sig.
func TestP81Sig(t *testing.T) {
	all := func(head string) api.Fn {
		f := fn(head, "", "| tick | ret")
		for _, in := range f.Sig.In {
			f.Blocks[0].Params = append(f.Blocks[0].Params, len(f.Types))
			f.Types = append(f.Types, in)
		}
		for _, out := range f.Sig.Out {
			f.Blocks[0].Code = append(f.Blocks[0].Code, api.Ins{Op: api.OpConst, Outs: []int{len(f.Types)}})
			f.Blocks[0].Term.Args = append(f.Blocks[0].Term.Args, len(f.Types))
			f.Types = append(f.Types, out)
		}
		return f
	}
	for head, rule := range map[string]string{
		">": "", "i>": "", ">l": "", "il>li": "", "iiiiiiii>": "", ">llllllll": "", "iliiiiil>lilillll": "",
		"iiiiiiiii>": "sig", ">iiiiiiiii": "sig", "lllllllll>lllllllll": "sig", strings.Repeat("i", 200) + ">": "sig",
	} {
		checks(t, head, world(), all(head), rule)
	}
	f := chain(1)
	for _, wrong := range []int{0, 0x40, 0x7d, 0x80, -1, 0x7f + 1<<8, math.MinInt, math.MaxInt} {
		f.Sig = api.Sig{Out: []int{wrong}}
		checks(t, "a wrong type in Out", world(), f, "sig")
		f.Sig = api.Sig{Out: []int{7: wrong, 0: api.I32, 1: api.I32, 2: api.I32, 3: api.I32, 4: api.I32, 5: api.I32, 6: api.I32}}
		checks(t, "a wrong type as the last one in Out", world(), f, "sig")
		f.Sig = api.Sig{In: []int{wrong}}
		checks(t, "a wrong type in In", world(), f, "first, sig")
	}
	f.Sig = api.Sig{Out: slices.Repeat([]int{api.I32}, 4097)}
	checks(t, "very many Out", world(), f, "list, sig")
}

// P8.1: no list has more than 4096 elements. Each breaks another rule too, so that what is held is that it does no harm.
func TestP81Lists(t *testing.T) {
	for _, count := range []int{4096, 4097, 1 << 16} {
		values := make([]int, count)
		list := ", list"
		if count == 4096 {
			list = ""
		}
		sorted := func(rules string) string {
			l := strings.Split(rules+list, ", ")
			slices.Sort(l)
			return strings.Join(l, ", ")
		}
		f := fn("i>", "i", "0 | tick | ret")
		f.Blocks[0].Term.Args = values
		checks(t, "Args of an end", world(), f, sorted("args"))
		f = fn("i>", "i", "0 | tick; 23 = | ret")
		f.Blocks[0].Code[1].Args = values
		checks(t, "Args of an instruction", world(), f, sorted("ins"))
		f = fn("i>", "i", "0 | tick; 23 = | ret")
		f.Blocks[0].Code[1].Outs = values
		checks(t, "Outs of an instruction", world(), f, sorted("ins, made"))
		f = fn("i>", "i", "0 | tick | br 1/| | ret")
		f.Blocks[0].Term.To[0].Args = values
		checks(t, "Args of an edge", world(), f, sorted("edge"))
		f = fn("i>", "i", "0 | tick | table 0 1/| | ret")
		f.Blocks[0].Term.To = slices.Repeat(f.Blocks[0].Term.To, count)
		checks(t, "To of an end", world(), f, sorted("to"))
	}
}

// largest is one with as many blocks, edges and Args as may be: each block goes to the next one, and 64 times to the last one, which has 256 Params.
func largest() api.Fn {
	f := chain(256)
	f.Types = slices.Repeat([]int{api.I32}, 2048)
	for b := range f.Blocks {
		f.Blocks[b].Code = slices.Repeat([]api.Ins{tick}, 16)
		f.Blocks[b].Term = api.Term{Kind: api.EndTable, To: []api.Edge{{To: min(b+1, 254)}}}
		for range 64 {
			args := slices.Repeat([]int{b}, 256)
			f.Blocks[b].Term.To = append(f.Blocks[b].Term.To, api.Edge{To: 255, Args: args})
		}
	}
	for b := range 255 {
		f.Blocks[b].Code[1] = api.Ins{Op: api.OpConst, Outs: []int{b}}
	}
	for p := range 256 {
		f.Blocks[255].Params = append(f.Blocks[255].Params, 255+p)
	}
	return f
}

// P8.1, R1: a function with as much of all as may be is looked at in time, and each of its values is.
func TestP81Largest(t *testing.T) {
	f := largest()
	if !ssa.Check(world(), f) || !ssa.Same(ssa.Replace(f, nil), f) || ssa.Count(f) != 4096 {
		t.Error("the largest function may not be")
	}
	if used := ssa.Used(f); !used[254] || !used[255] || used[256] {
		t.Error("Used of the largest function:", used)
	}
	last := &f.Blocks[200].Term.To[64].Args[255]
	for _, v := range []int{200, 199, 0} {
		if *last = v; !ssa.Check(world(), f) {
			t.Error("a value that is there is not seen:", v)
		}
	}
	for _, v := range []int{-1, 201, 254, 255, 511, 2047, 2048} {
		if *last = v; ssa.Check(world(), f) {
			t.Error("a value that is not there is not seen:", v)
		}
	}
}
