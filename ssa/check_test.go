package ssa_test

import (
	"math"
	"slices"
	"strings"
	"testing"

	"bellcrank/api"
	"bellcrank/ssa"
)

// ends is a function with an end of each Kind, by the block's number: EndBr 0, EndIf 1, EndTable 2, EndReturn 3, EndTrap 4.
func ends() api.Fn {
	return fn("il>il", "ilili", "0 1 | tick | br 1(0)/ 2 | tick | if 2 2 3(1)/ | | table 0 4 1(0) 4/ 3 | tick | ret 2 3/ | const#7 = 4 | trap")
}

// turned are ways to turn a function, each with the rule that it breaks (none, if it may still be).
type turned []struct {
	what string
	turn func(f *api.Fn)
	rule string
}

// hold holds that a function may be, and each way to turn it breaks just its rule.
func (l turned) hold(t *testing.T, make func() api.Fn) {
	t.Helper()
	checks(t, "nothing turned", world(), make(), "")
	for _, c := range l {
		f := make()
		c.turn(&f)
		checks(t, c.what, world(), f, c.rule)
	}
}

// P8.1: each Kind of end, with too little and too much of To.
func TestP81EndsTo(t *testing.T) {
	to := func(f *api.Fn, b int) *[]api.Edge { return &f.Blocks[b].Term.To }
	turned{
		{"EndBr without To", func(f *api.Fn) { *to(f, 0) = nil }, "reached, there, to"},
		{"EndBr with two", func(f *api.Fn) { *to(f, 0) = append(*to(f, 0), edge("1(0)")) }, "to"},
		{"EndBr with two, the second one elsewhere", func(f *api.Fn) { *to(f, 0) = append(*to(f, 0), edge("4")) }, "to"},
		{"EndIf without To", func(f *api.Fn) { *to(f, 1) = nil }, "reached, there, to"},
		{"EndIf with one", func(f *api.Fn) { *to(f, 1) = []api.Edge{edge("3(1)")} }, "reached, there, to"},
		{"EndIf with three", func(f *api.Fn) { *to(f, 1) = append(*to(f, 1), edge("2")) }, "to"},
		{"EndIf with the same one twice", func(f *api.Fn) {
			*to(f, 1) = []api.Edge{edge("2"), edge("2")}
			*to(f, 2) = append(*to(f, 2), edge("3(1)"))
			f.Blocks[3].Term.Args[0] = 0
		}, ""},
		{"EndTable with one", func(f *api.Fn) { *to(f, 2) = []api.Edge{edge("4")} }, ""},
		{"EndTable with two", func(f *api.Fn) { *to(f, 2) = []api.Edge{edge("4"), edge("4")} }, ""},
		{"EndTable with 64", func(f *api.Fn) { *to(f, 2) = slices.Repeat([]api.Edge{edge("4")}, 64) }, ""},
		{"EndTable with 65", func(f *api.Fn) { *to(f, 2) = slices.Repeat([]api.Edge{edge("4")}, 65) }, ""},
		{"EndTable with 66", func(f *api.Fn) { *to(f, 2) = slices.Repeat([]api.Edge{edge("4")}, 66) }, "to"},
		{"EndTable with 128", func(f *api.Fn) { *to(f, 2) = slices.Repeat([]api.Edge{edge("4")}, 128) }, "to"},
		{"EndTable with 129", func(f *api.Fn) { *to(f, 2) = slices.Repeat([]api.Edge{edge("4")}, 129) }, "to"},
		{"EndReturn with one", func(f *api.Fn) { *to(f, 3) = []api.Edge{edge("4")} }, "to"},
		{"EndTrap with one", func(f *api.Fn) { *to(f, 4) = []api.Edge{edge("2")} }, "circle, to"},
		{"EndTrap with one, forward", func(f *api.Fn) { *to(f, 4) = []api.Edge{edge("3(1)")} }, "to"},
	}.hold(t, ends)
	last := fn(">", "i", "| tick; const#1 = 0 | table 0 1/| | trap")
	checks(t, "EndTable with one", world(), last, "")
	last.Blocks[0].Term.To = nil
	checks(t, "EndTable without To", world(), last, "reached, to")
	last.Blocks = last.Blocks[:1]
	checks(t, "EndTable without To in the one block", world(), last, "to")
}

// P8.1: the Arg of each Kind of end: a value of I32 where it is asked for, else 0.
func TestP81EndsArg(t *testing.T) {
	var l turned
	for b, name := range []string{"EndBr", "EndIf", "EndTable", "EndReturn", "EndTrap"} {
		picks := b == 1 || b == 2
		for _, v := range []int{0, 1, 2, 3, 4, 5, -1, 2048, math.MinInt, math.MaxInt} {
			rule := ""
			switch {
			case picks && (v == 1 || v == 3 || v < 0 || v > 4), !picks && v != 0:
				rule = "arg"
			case picks && v == 4:
				rule = "there"
			}
			if picks && v == 3 {
				rule = "arg, there"
			}
			l = append(l, struct {
				what string
				turn func(f *api.Fn)
				rule string
			}{name + " with the Arg " + told(v), func(f *api.Fn) { f.Blocks[b].Term.Arg = v }, rule})
		}
	}
	l.hold(t, ends)
	one := fn("il>", "il", "0 1 | tick | if 0 1 1/| | trap")
	checks(t, "an Arg of I32", world(), one, "")
	one.Blocks[0].Term.Arg = 1
	checks(t, "an Arg of I64", world(), one, "arg")
}

// P8.1: the Args of each Kind of end: those of Sig's Out for EndReturn, else none.
func TestP81EndsArgs(t *testing.T) {
	var l turned
	for b, name := range []string{"EndBr", "EndIf", "EndTable", "EndReturn", "EndTrap"} {
		for _, args := range [][]int{nil, {}, {0}, {0, 1}, {2, 1}, {2, 3}, {3, 2}, {1, 1}, {0, 0}, {0, 1, 0}, {-1, 1}, {0, 5}, {0, math.MaxInt}} {
			rule := "args"
			switch of := told(args); {
			case b != 3 && len(args) == 0, b == 3 && (of == "[0 1]" || of == "[2 1]" || of == "[2 3]"):
				rule = ""
			case b < 3 && slices.Contains(args, 3), b == 4 && slices.Contains(args, 3), b == 0 && slices.Contains(args, 2):
				rule = "args, there"
			}
			l = append(l, struct {
				what string
				turn func(f *api.Fn)
				rule string
			}{name + " with the Args " + told(args), func(f *api.Fn) { f.Blocks[b].Term.Args = args }, rule})
		}
	}
	l.hold(t, ends)
}

// P8.1: a Kind that is none, even where nothing else is wrong.
func TestP81EndsKind(t *testing.T) {
	for _, kind := range []int{0, -1, -5, 6, 7, 1<<8 + 5, 1<<32 + 5, math.MinInt, math.MaxInt} {
		f := chain(1)
		f.Blocks[0].Term.Kind = kind
		checks(t, "an end that is none", world(), f, "kind")
		f = ends()
		f.Blocks[4].Term.Kind = kind
		checks(t, "an end that is none behind others", world(), f, "kind")
	}
	for b := range 5 {
		for kind := 1; kind <= 5; kind++ {
			f := ends()
			f.Blocks[b].Term.Kind = kind
			right := kind == b+1 || b < 2 && kind == api.EndTable // a table may have one To, or two, and the Arg is of I32
			if ssa.Check(world(), f) != right || (len(faults(world(), f)) == 0) != right {
				t.Error("the Kind", kind, "for", b+1)
			}
		}
	}
}

// P8.1: a To that is block 0, or none.
func TestP81Targets(t *testing.T) {
	for _, to := range []int{0, -1, 5, 6, 256, 1 << 32, math.MinInt, math.MaxInt} {
		f := ends()
		f.Blocks[2].Term.To[2] = api.Edge{To: to}
		checks(t, "a To that may not be", world(), f, "target")
		f = ends()
		f.Blocks[2].Term.To[0] = api.Edge{To: to}
		checks(t, "a first To that may not be", world(), f, "target")
		f = fn(">", "i", "| tick; const = 0 | if 0 1 1/ | | trap")
		f.Blocks[0].Term.To[1].To = to
		checks(t, "a To of an EndIf that may not be", world(), f, "target")
	}
	checks(t, "block 0, which has no Params", world(), fn(">", "", "| tick | br 0"), "target")
	checks(t, "block 0, from elsewhere", world(), fn(">", "", "| tick | br 1/ | tick | br 0"), "target")
	checks(t, "block 0, with what its Params ask for", world(), fn("i>", "i", "0 | tick | br 0(0)"), "target")
	checks(t, "itself, which is not 0", world(), fn(">", "", "| tick | br 1/ | tick | br 1"), "")
}

// P8.1: the Args of edges are of their block's Params' types.
func TestP81Edges(t *testing.T) {
	base := func(args string) api.Fn {
		return fn("iill>", "iilliil", "0 1 2 3 | tick | br 1("+args+")/ 4 5 6 | | trap")
	}
	for _, args := range []string{"0,1,2", "0,0,2", "1,0,3", "1,1,3"} {
		checks(t, args, world(), base(args), "")
	}
	for _, args := range []string{"", "0", "0,1", "0,1,2,3", "0,1,2,0", "0,2,1", "2,0,1", "0,1,1", "2,3,2", "0,1,-1", "7,1,2", "0,9223372036854775807,3", "-9223372036854775808,1,3"} {
		checks(t, args, world(), base(args), "edge")
	}
	two := fn("il>", "ilil", "0 1 | tick | if 0 1(0) 2(1)/ 2 | | trap/ 3 | | trap")
	checks(t, "two edges", world(), two, "")
	two.Blocks[0].Term.To[0].Args[0], two.Blocks[0].Term.To[1].Args[0] = 1, 0
	checks(t, "two edges with each other's", world(), two, "edge")
	two = fn("i>", "ii", "0 | tick | if 0 1(0) 1/ 1 | | trap")
	checks(t, "the second edge without what the first one has", world(), two, "edge")
}

// P8.1: block 0's Params are of Sig's In.
func TestP81First(t *testing.T) {
	holds := func(head, values, params, rule string) {
		t.Helper()
		checks(t, head+" with the Params "+params, world(), fn(head, values, params+"| tick | trap"), rule)
	}
	holds(">", "", "", "")
	holds("il>", "il", "0 1", "")
	holds("il>", "lil", "1 0", "")
	holds("ii>", "ii", "1 0", "")
	holds(">", "i", "0", "first")
	holds("i>", "i", "", "first")
	holds("i>", "l", "0", "first")
	holds("il>", "il", "1 0", "first")
	holds("il>", "il", "0", "first")
	holds("il>", "ill", "0 1 2", "first")
	holds("iiiiiiii>", "iiiiiiii", "0 1 2 3 4 5 6 7", "")
	holds("iiiiiiii>", "iiiiiiiii", "0 1 2 3 4 5 6 7 8", "first")
	holds("i>", "i", "-1", "first, made")
	holds("i>", "i", "1", "first, made")
	holds("i>", "i", "9223372036854775807", "first, made")
}

// P8.1: all blocks are reached.
func TestP81Reached(t *testing.T) {
	for text, rule := range map[string]string{
		"| tick | trap":                                                   "",
		"| tick | trap/ | | trap":                                         "reached",
		"| tick | br 2/ | | trap/ | | trap":                               "reached",
		"| tick | br 1/ | | trap/ | | trap":                               "reached",
		"| tick | br 1/ | | trap/ | | br 1":                               "reached",
		"| tick | trap/ | tick | br 1":                                    "reached",
		"| tick | trap/ | tick | br 2/ | | br 1":                          "reached",
		"| tick | br 3/ | | trap/ | | br 1/ | | br 2":                     "",
		"| tick; const = 0 | table 0 1 2 3 4/||trap/||trap/||trap/||trap": "",
		"| tick; const = 0 | table 0 1 2 4 4/||trap/||trap/||trap/||trap": "reached",
		"| tick; const = 0 | if 0 1 2/||trap/||br 3/||trap":               "",
		"| tick; const = 0 | if 0 1 1/||trap/||br 1":                      "reached",
	} {
		checks(t, text, world(), fn(">", "i", text), rule)
	}
	f := chain(256)
	f.Blocks[254].Term = api.Term{Kind: api.EndTrap}
	checks(t, "the last of many blocks", world(), f, "reached")
}

// P8.1: a value is made at most once, and what is made is a value.
func TestP81Made(t *testing.T) {
	rows := []struct{ what, head, values, text, rule string }{
		{"two Outs", ">", "ii", "| tick; const = 0; const = 1 | trap", ""},
		{"a value that nothing makes", ">", "iil", "| tick; const = 1 | trap", ""},
		{"an Out twice", ">", "ii", "| tick; const = 0; const = 0 | trap", "made"},
		{"an Out of two blocks", ">", "i", "| tick; const = 0 | br 1/ | const = 0 | trap", "made"},
		{"an Out of two ways", "i>", "ii", "0 | tick | if 0 1 2/ | const = 1 | trap/ | const = 1 | trap", "made"},
		{"an Out twice of one call", ">", "lii", "| tick; const = 0; 10#2 0 = 1 1 | trap", "ins, made"},
		{"an Out that is a Param", "i>", "i", "0 | tick; const = 0 | trap", "made"},
		{"an Out that is a later block's Param", ">", "ii", "| tick; const = 0; const = 1 | br 1(0)/ 1 | | trap", "made"},
		{"a Param twice of block 0", "ii>", "i", "0 0 | tick | trap", "made"},
		{"a Param twice", "i>", "ii", "0 | tick | br 1(0,0)/ 1 1 | | trap", "made"},
		{"a Param of two blocks", "i>", "ii", "0 | tick | br 1(0)/ 1 | | br 2(0)/ 1 | | trap", "made"},
		{"a Param of block 0 of another one, too", "ii>", "ii", "0 1 | tick | br 1(1)/ 0 | | trap", "made"},
		{"an Out past the end", ">", "i", "| tick; const = 1 | trap", "ins, made"},
		{"an Out below 0", ">", "i", "| tick; const = -1 | trap", "ins, made"},
		{"an Out far past the end", ">", "i", "| tick; const = 9223372036854775807 | trap", "ins, made"},
		{"an Out far below 0", ">", "i", "| tick; const = -9223372036854775808 | trap", "ins, made"},
		{"a Param past the end", "i>", "i", "0 | tick | br 1(0)/ 1 | | trap", "edge, made"},
		{"a Param below 0", "i>", "i", "0 | tick | br 1(0)/ -1 | | trap", "edge, made"},
		{"a Param and an Arg past the end", "i>", "i", "0 | tick | br 1(1)/ 1 | | trap", "made"},
	}
	calls := world()
	calls.Sigs[2] = sig("l>ii")
	checks(t, "two Outs of one call", calls, fn(">", "lii", "| tick; const = 0; 10#2 0 = 1 2 | trap"), "")
	checks(t, "one Out twice of one call", calls, fn(">", "lii", "| tick; const = 0; 10#2 0 = 1 1 | trap"), "made")
	for _, r := range rows {
		checks(t, r.what, world(), fn(r.head, r.values, r.text), r.rule)
	}
}

// P8.1: what is asked for is one of the block's Params, an Out ahead, or a value of another block that dominates it.
func TestP81There(t *testing.T) {
	rows := []struct{ what, text, rule string }{
		{"a Param of the block", "0 | tick; 45 0 = 1 | trap", ""},
		{"an Out ahead", "0 | tick; const = 1; 45 1 = 2 | trap", ""},
		{"an Out of itself", "0 | tick; 45 1 = 1 | trap", "there"},
		{"an Out of the next one", "0 | tick; 45 2 = 1; const = 2 | trap", "there"},
		{"a value that nothing makes", "0 | tick; 45 3 = 1 | trap", "there"},
		{"an end's, of the last instruction", "0 | tick; 45 0 = 1 | if 1 1 1/| | trap", ""},
		{"an end's, of a Param", "0 | tick | if 0 1 1/| | trap", ""},
		{"an end's that nothing makes", "0 | tick | if 3 1 1/| | trap", "there"},
		{"an end's that the next block makes", "0 | tick | if 1 1 1/| const = 1 | trap", "there"},
		{"an end's Args that the next block's Params are", "0 | tick | br 1(1)/ 1 | | trap", "there"},
		{"an end's Args that the next block makes", "0 | tick | br 1(2)/ 1 | const = 2 | trap", "there"},
		{"an end's Args that nothing makes", "0 | tick | br 1(3)/ 1 | | trap", "there"},
		{"its own Params, by an instruction and by its end", "0 | tick | br 1(0)/ 1 | tick; 45 1 = 2 | br 1(1)", ""},
		{"its own Out, handed to itself", "0 | tick | br 1(0)/ 1 | tick; 45 1 = 2 | br 1(2)", ""},
		{"its own Out ahead, the time before", "0 | tick | br 1(0)/ 1 | tick; 45 2 = 3; 45 1 = 2 | br 1(2)", "there"},
		{"a dominator's Param", "0 | tick | br 1/ | 45 0 = 1 | trap", ""},
		{"a dominator's Out", "0 | tick; const = 1 | br 1/ | 45 1 = 2 | trap", ""},
		{"a far dominator's Out", "0 | tick; const = 1 | br 1/| | br 2/| | br 3/ | 45 1 = 2 | trap", ""},
		{"an end of a dominator's", "0 | tick; const = 1 | br 1/ | | if 1 2 2/| | trap", ""},
		{"a block's that does not dominate", "0 | tick | if 0 1 2/| const = 1 | br 3/| | br 3/| 45 1 = 2 | trap", "there"},
		{"the other way's", "0 | tick | if 0 1 2/| const = 1 | trap/| 45 1 = 2 | trap", "there"},
		{"the other way's, by an end", "0 | tick | if 0 1 2/| const = 1 | br 3(1)/| | br 3(1)/ 2 | | trap", "there"},
		{"each way's own", "0 | tick | if 0 1 2/| const = 1 | br 3(1)/| | br 3(0)/ 2 | 45 2 = 3 | trap", ""},
		{"behind both ways, of ahead of them", "0 | tick; const = 1 | if 0 1 2/| | br 3/| | br 3/ | 45 1 = 2 | trap", ""},
		{"a Param of a block that does not dominate", "0 | tick | if 0 1(0) 2/ 1 | | br 2/| 45 1 = 2 | trap", "there"},
		{"a loop's head asks for what its body makes", "0 | tick | br 1/ | tick; 45 1 = 2 | if 2 2 3/ | const = 1 | br 1/| | trap", "there"},
		{"a loop's body asks for what its head makes", "0 | tick | br 1/ | tick; const = 1 | if 1 2 3/ | 45 1 = 2 | br 1/| | trap", ""},
		{"behind a loop, of what its head makes", "0 | tick | br 1/ | tick; const = 1 | if 1 2 3/ | | br 1/ | 45 1 = 2 | trap", ""},
		{"behind a loop, of what its body makes", "0 | tick | br 1/ | tick; const = 1 | if 1 2 3/ | const = 2 | br 1/ | 45 2 = 3 | trap", "there"},
		{"a dominator that stands behind it", "0 | tick | br 2/ | 45 1 = 2 | trap/ | const = 1 | br 1", ""},
		{"a block of two ways that enter a ring", "0 | tick | if 0 1 2/ | tick; const = 1 | br 2/ | 45 1 = 2 | br 1", "there"},
		{"a Param of a block that is met behind it", "0 | tick; 45 1 = 2 | br 1(0)/ 1 | | trap", "there"},
	}
	for _, r := range rows {
		checks(t, r.what, world(), fn("i>", "iiii", r.text), r.rule)
	}
	ret := fn(">i", "i", "| tick | br 1/| const = 0 | ret 0")
	checks(t, "a value that is answered", world(), ret, "")
	ret = fn(">i", "i", "| tick | ret 0")
	checks(t, "a value that is answered and not made", world(), ret, "there")
	ret = fn(">i", "i", "| tick; const = 0 | br 1/| | ret 0")
	checks(t, "a dominator's value that is answered", world(), ret, "")
}

// P8.1: a value of a block is there all along a long row of blocks, and ahead of none of them.
func TestP81ThereFar(t *testing.T) {
	f := chain(256)
	f.Types = types("ii")
	f.Blocks[0].Code = append(f.Blocks[0].Code, ins("const = 0"))
	f.Blocks[255].Code = []api.Ins{ins("45 0 = 1")}
	checks(t, "from the first block to the last one", world(), f, "")
	f.Blocks[254].Term = end("if 0 255 253")
	checks(t, "a loop without a tick", world(), f, "circle")
	f.Blocks[253].Code = []api.Ins{tick}
	checks(t, "and one with a tick", world(), f, "")
	f.Blocks[100].Code = []api.Ins{ins("45 1 = 0")}
	f.Blocks[0].Code = f.Blocks[0].Code[:1]
	checks(t, "from the last block to an earlier one", world(), f, "there")
}

// P8.1: the first instruction of block 0 is OpTick.
func TestP81FirstTick(t *testing.T) {
	for text, rule := range map[string]string{
		"| tick | trap":                   "",
		"| tick; tick | trap":             "",
		"| tick; const = 0; tick | trap":  "",
		"| | trap":                        "tick",
		"| const = 0 | trap":              "tick",
		"| const = 0; tick | trap":        "tick",
		"| 10#1; tick | trap":             "tick",
		"| | br 1/ | tick | trap":         "tick",
		"| tick | br 1/ | const = 0|trap": "",
		"| tick#1 | trap":                 "ins",
	} {
		checks(t, text, world(), fn(">", "i", text), rule)
	}
}

// P8.1: each circle of blocks has one that has an OpTick.
func TestP81Circles(t *testing.T) {
	// Each block has what the words tell: its number of the blocks to which it goes, a t ahead for a tick.
	rows := []struct{ graph, rule string }{
		{"t1 1", "circle"}, {"t1 t1", ""},
		{"t1 2 1", "circle"}, {"t1 t2 1", ""}, {"t1 2 t1", ""}, {"t1 t2 t1", ""},
		{"t1 2 3 1", "circle"}, {"t1 2 t3 1", ""}, {"t1 2 3 t1", ""},
		{"t1 2 23 -", "circle"}, {"t1 2 t23 -", ""}, {"t1 t2 23 -", "circle"},
		{"t1 2 3 24 1-", "circle"}, // one within another one, both without
		{"t1 t2 3 24 1", "circle"}, // the inner one without
		{"t1 2 t3 24 1", ""},       // one tick in both
		{"t1 2 3 t24 1", ""},
		{"t1 2 3 24 t1", "circle"},       // the outer one's own tick alone
		{"t1 2 34 2 t1", "circle"},       // likewise, as a way through the head
		{"t1 t2 34 t2 1", ""},            // a tick of each
		{"t1 t2 3 4 3256 - 1", "circle"}, // three within one another
		{"t1 t2 t3 t4 3256 - 1", ""},     // likewise, with a tick in each
		{"t1 2 3 t4 3256 - 1", ""},       // likewise, with one that all go through
		{"t1 t2 3 4 t3256 - 1", ""},      // likewise
		{"t12 2 1", "circle"},            // a ring that is entered at two places
		{"t12 t2 1", ""}, {"t12 2 t1", ""},
		{"t12 3 3 12", "circle"},             // two rings that share a block
		{"t12 t3 3 12", "circle"},            // one of them without
		{"t12 t3 t3 12", ""},                 // a tick of each
		{"t12 3 3 t12", ""},                  // a tick of both
		{"t1 22 1", "circle"},                // two edges to one block
		{"t12 3 3 -", ""},                    // ways that meet, but no circle
		{"t12 3 3 45 6 6 -", ""},             // likewise
		{"t1234 234 34 4 -", ""},             // each to all behind it
		{"t1234 1234 t234 t34 t4", "circle"}, // each to itself, one without a tick
		{"t1234 t1234 t234 t34 t4", ""},
		{"t1234 t1234 t1234 t1234 1234", "circle"}, // each to all, one without a tick
		{"t1234 t1234 t1234 t1234 t1234", ""},
		{"t1 2 3 4 5 6 7 8 9 1", "circle"}, // a long one
		{"t1 2 3 4 5 6 7 8 9 t1", ""},
		{"t9 8 1 2 3 4 5 6 7 8", "circle"}, // backward, with another one within
		{"t9 8 1 2 3 4 t5 6 7 8", ""},
	}
	for _, r := range rows {
		checks(t, r.graph, world(), ofGraph(r.graph), r.rule)
	}
}

// ofGraph is a function whose blocks go as the words tell.
func ofGraph(text string) api.Fn {
	f := fn("i>", "i", "0 | | trap")
	f.Blocks = nil
	for _, word := range strings.Fields(text) {
		var b api.Block
		if strings.HasPrefix(word, "t") {
			b.Code = []api.Ins{tick}
		}
		b.Term.Kind = api.EndTrap
		for _, c := range strings.Trim(word, "t-") {
			b.Term.Kind = api.EndTable
			b.Term.To = append(b.Term.To, api.Edge{To: int(c - '0')})
		}
		f.Blocks = append(f.Blocks, b)
	}
	f.Blocks[0].Params = []int{0}
	return f
}

// P8.1: a tick may stand anywhere in a block of a circle.
func TestP81TickAnywhere(t *testing.T) {
	for _, code := range []string{"tick; const = 1; const = 2", "const = 1; tick; const = 2", "const = 1; const = 2; tick"} {
		checks(t, code, world(), fn("i>", "iii", "0 | tick | br 1/ |"+code+"| br 1"), "")
	}
	long := chain(256)
	for b := range 255 {
		long.Blocks[b+1].Term = api.Term{Kind: api.EndTable, To: []api.Edge{{To: min(b+2, 255)}, {To: b + 1}}}
		long.Blocks[b+1].Code = []api.Ins{tick}
	}
	long.Sig.In, long.Types, long.Blocks[0].Params = types("i"), types("i"), []int{0}
	checks(t, "a tick in each block", world(), long, "")
	for _, without := range []int{1, 2, 100, 254, 255} {
		f := clone(long)
		f.Blocks[without].Code = nil
		checks(t, "no tick in a block that goes to itself", world(), f, "circle")
	}
}
