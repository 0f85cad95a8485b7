package ssa_test

import (
	"math"
	"slices"
	"strings"
	"testing"

	"bellcrank/api"
	"bellcrank/ssa"
)

// somewhere are numbers of operators: from below 0 to above the last one, and ones that are one if they are cut to fewer bits.
func somewhere() []int {
	l := []int{math.MinInt, math.MinInt + 0x6a, math.MaxInt, -0x6a, 1<<9 + 1, 1<<16 + 0x100, 1<<32 + 0x6a, 1<<32 + 0x1b, 1<<32 + 0x102, 1<<16 + 0x28}
	for op := -3; op < 0x121; op++ {
		l = append(l, op)
	}
	return l
}

// P8.1: Pure of each operator there is, and of numbers that are none.
func TestP81Pure(t *testing.T) {
	for _, op := range append(somewhere(), upTo(0x400)...) {
		if have := ssa.Pure(op); have != pureByWords(op) {
			t.Errorf("Pure(%x): %v", op, have)
		}
	}
}

// P8.1: Pure, by hand.
func TestP81PureByHand(t *testing.T) {
	for op, want := range map[int]bool{
		0x100: true, 0x1b: true, 0x45: true, 0x50: true, 0x5a: true, 0x67: true, 0x6a: true, 0x6c: true, 0x71: true, 0x7e: true, 0x83: true, 0xa7: true, 0xc4: true,
		0x6d: false, 0x6e: false, 0x6f: false, 0x70: false, 0x7f: false, 0x80: false, 0x81: false, 0x82: false,
		0x10: false, 0x23: false, 0x24: false, 0x101: false, 0x102: false, 0x28: false, 0x35: false, 0x36: false, 0x3e: false, 0x3f: false, 0x40: false,
		0: false, -1: false, 0x41: false, 0x42: false, 0x44: false, 0x5b: false, 0xc5: false, 0x110: false,
	} {
		if have := ssa.Pure(op); have != want {
			t.Errorf("Pure(%x): %v", op, have)
		}
	}
}

// lone is a function that has one instruction behind its tick, which gets its Args and Outs by their types: i and l are there, the others are no values.
func lone(op int, n uint64, in, out string) api.Fn {
	f := fn("iiilll>", "iiilll", "0 1 2 3 4 5 | tick | ret")
	x := api.Ins{Op: op, N: n}
	for i, c := range in {
		switch c {
		case 'i':
			x.Args = append(x.Args, i%3)
		case 'l':
			x.Args = append(x.Args, 3+i%3)
		default:
			x.Args = append(x.Args, []int{-1, 1 << 20, math.MinInt, math.MaxInt}[i%4])
		}
	}
	for _, t := range types(out) {
		x.Outs = append(x.Outs, len(f.Types))
		f.Types = append(f.Types, t)
	}
	f.Blocks[0].Code = append(f.Blocks[0].Code, x)
	return f
}

// lists are all texts of at most so many of some letters.
func lists(letters string, most int) []string {
	l := []string{""}
	last := l
	for range most {
		var next []string
		for _, text := range last {
			for _, c := range letters {
				next = append(next, text+string(c))
			}
		}
		l, last = append(l, next...), next
	}
	return l
}

// P8.1: each operator with all Args and Outs of few types, in a world with all and one with nothing.
func TestP81Operators(t *testing.T) {
	t.Parallel()
	ins, outs := lists("il", 3), lists("il", 2)
	right := 0
	for _, op := range somewhere() {
		for _, in := range ins {
			for _, out := range outs {
				for _, n := range []uint64{0, 1} {
					for _, e := range []api.Env{world(), {}} {
						want := insRight(e, op, n, in, out)
						if have := ssa.Check(e, lone(op, n, in, out)); have != want {
							t.Fatalf("%x#%d of %s>%s: %v", op, n, in, out, have)
						}
						if want {
							right++
						}
					}
				}
			}
		}
	}
	if right < 150 {
		t.Error("too few instructions may be:", right)
	}
}

// kinds has one instruction of each kind that there is, in the world with a memory.
var kinds = []struct {
	op      int
	n       uint64
	in, out string
}{
	{0x100, 5, "", "i"}, {0x100, 5, "", "l"}, {0x102, 0, "", ""}, {0x1b, 0, "iii", "i"}, {0x1b, 0, "lli", "l"},
	{0x23, 0, "", "i"}, {0x23, 1, "", "l"}, {0x23, 2, "", "l"}, {0x24, 0, "i", ""}, {0x24, 2, "l", ""},
	{0x10, 0, "il", "i"}, {0x10, 1, "", ""}, {0x10, 2, "l", "il"},
	{0x101, 9, "i", ""}, {0x28, 7, "i", "i"}, {0x29, 7, "i", "l"}, {0x2c, 0, "i", "i"}, {0x35, 1, "i", "l"},
	{0x36, 7, "ii", ""}, {0x37, 7, "il", ""}, {0x3b, 0, "ii", ""}, {0x3e, 1, "il", ""}, {0x3f, 0, "", "i"}, {0x40, 0, "i", "i"},
	{0x45, 0, "i", "i"}, {0x50, 0, "l", "i"}, {0x4f, 0, "ii", "i"}, {0x51, 0, "ll", "i"}, {0x69, 0, "i", "i"}, {0x79, 0, "l", "l"},
	{0x6a, 0, "ii", "i"}, {0x6d, 0, "ii", "i"}, {0x70, 0, "ii", "i"}, {0x7c, 0, "ll", "l"}, {0x82, 0, "ll", "l"}, {0x8a, 0, "ll", "l"},
	{0xa7, 0, "l", "i"}, {0xac, 0, "i", "l"}, {0xad, 0, "i", "l"}, {0xc1, 0, "i", "i"}, {0xc4, 0, "l", "l"},
}

// P8.1: an instruction of each kind may be, and not with an Arg or an Out more or less, or another type.
func TestP81Kinds(t *testing.T) {
	for _, k := range kinds {
		holds := func(in, out, rule string) {
			t.Helper()
			what := told(k.op) + " of " + in + ">" + out
			checks(t, what, world(), lone(k.op, k.n, in, out), rule)
		}
		holds(k.in, k.out, "")
		for _, more := range []string{"i", "l"} {
			holds(k.in+more, k.out, "ins")
			holds(more+k.in, k.out, "ins")
			holds(k.in, k.out+more, "ins")
			holds(k.in, more+k.out, "ins")
			holds(k.in, k.out+"ilililililil"+more, "ins")
			holds(k.in+"ilililililil"+more, k.out, "ins")
		}
		for i := range k.in {
			holds(k.in[:i]+k.in[i+1:], k.out, "ins")
			holds(k.in[:i]+"x"+k.in[i+1:], k.out, "ins")
			holds(k.in[:i]+strings.Trim("il", k.in[i:i+1])+k.in[i+1:], k.out, "ins")
		}
		for i := range k.out {
			holds(k.in, k.out[:i]+k.out[i+1:], "ins")
			if k.op != 0x100 {
				holds(k.in, k.out[:i]+strings.Trim("il", k.out[i:i+1])+k.out[i+1:], "ins")
			}
		}
	}
}

// P8.1: a choice takes two of one type, also where both are no values.
func TestP81Select(t *testing.T) {
	for _, in := range []string{"ili", "lii", "iil", "lll", "xxi", "xii", "ixi", "iix", "xli", "lxi", "xxx", "ii", "ll", "i", "x", "", "iiii", "llii"} {
		for _, out := range []string{"i", "l", "", "ii", "ll"} {
			checks(t, "1b of "+in+">"+out, world(), lone(0x1b, 0, in, out), "ins")
		}
	}
	checks(t, "1b without anything", world(), lone(0x1b, 0, "", ""), "ins")
	x := lone(0x1b, 0, "xxi", "")
	x.Blocks[0].Code[1].Outs = []int{-1}
	checks(t, "1b of what is no value to what is none", world(), x, "ins, made")
}

// P8.1: N at its bounds and past them, of each kind.
func TestP81Numbers(t *testing.T) {
	most := map[int]uint64{0x100: 1<<64 - 1, 0x23: 2, 0x24: 2, 0x10: 2, 0x101: 1 << 33}
	for op := 0x28; op <= 0x3e; op++ {
		most[op] = 1<<32 - 1
	}
	for _, k := range kinds {
		switch {
		case k.op == 0x10, k.op == 0x23, k.op == 0x24:
			continue // the types hang on N
		}
		top := most[k.op]
		if k.op == 0x100 && k.out == "i" {
			top = 1<<32 - 1
		}
		for _, n := range []uint64{0, 1, 2, 255, 1<<31 - 1, 1 << 31, 1<<32 - 1, 1 << 32, 1<<32 + 1, 1<<33 - 1, 1 << 33, 1<<33 + 1, 1 << 62, 1<<63 - 1, 1 << 63, 1<<64 - 1} {
			rule := "ins"
			if n <= top {
				rule = ""
			}
			checks(t, told(k.op)+"#"+told(n), world(), lone(k.op, n, k.in, k.out), rule)
		}
	}
}

// P8.1: numbers of functions and globals: what is there, and what is past the end, also far past it.
func TestP81Indexes(t *testing.T) {
	e := world()
	for _, n := range []uint64{3, 4, 1 << 8, 1 << 32, 1<<32 + 1, 1 << 63, 1<<63 + 1, 1<<64 - 3, 1<<64 - 1} {
		for _, k := range kinds {
			if k.op == 0x10 || k.op == 0x23 || k.op == 0x24 {
				checks(t, told(k.op)+"#"+told(n), e, lone(k.op, n, k.in, k.out), "ins")
			}
		}
	}
	checks(t, "a global that may not be written", e, lone(0x24, 1, "l", ""), "ins")
	e.Muts[1] = true
	checks(t, "it may be written now", e, lone(0x24, 1, "l", ""), "")
	e.Muts[0] = false
	checks(t, "another one that may not", e, lone(0x24, 0, "i", ""), "ins")
	checks(t, "it may be read", e, lone(0x23, 0, "", "i"), "")
	checks(t, "a global of another type", e, lone(0x23, 0, "", "l"), "ins")
	checks(t, "another function's type", e, lone(0x10, 2, "il", "i"), "ins")
	checks(t, "no global", api.Env{}, lone(0x23, 0, "", "i"), "ins")
	checks(t, "no function", api.Env{}, lone(0x10, 0, "", ""), "ins")
	last := api.Env{Sigs: slices.Repeat([]api.Sig{sig("i>")}, 64), Imports: 64, Globals: types(strings.Repeat("l", 32)), Muts: make([]bool, 32)}
	last.Muts[31] = true
	checks(t, "the last function, a host's", last, lone(0x10, 63, "i", ""), "")
	checks(t, "one past the last function", last, lone(0x10, 64, "i", ""), "ins")
	checks(t, "the last global", last, lone(0x24, 31, "l", ""), "")
	checks(t, "the last but one, which may not be written", last, lone(0x24, 30, "l", ""), "ins")
	checks(t, "one past the last global", last, lone(0x23, 32, "", "l"), "ins")
	widest := api.Env{Sigs: []api.Sig{sig("iiilllil>lllllll" + "i")}}
	checks(t, "a call of eight and eight", widest, lone(0x10, 0, "iiilllil", "lllllll"+"i"), "")
	checks(t, "a call of seven and eight", widest, lone(0x10, 0, "iiillli", "lllllll"+"i"), "ins")
	checks(t, "a call of eight and seven", widest, lone(0x10, 0, "iiilllil", "lllllll"), "ins")
}

// P8.1: without a memory there is nothing that asks for one, and all else.
func TestP81NoMemory(t *testing.T) {
	e := world()
	e.Mem = false
	for _, k := range kinds {
		rule := ""
		if k.op >= 0x28 && k.op <= 0x40 || k.op == 0x101 {
			rule = "ins"
		}
		checks(t, told(k.op)+" without a memory", e, lone(k.op, k.n, k.in, k.out), rule)
	}
	for op := 0x28; op <= 0x40; op++ {
		if shape, is := shapeOf(op); is {
			in, out, _ := strings.Cut(shape, ">")
			checks(t, told(op)+" with a memory", world(), lone(op, 0, in, out), "")
			checks(t, told(op)+" without a memory", e, lone(op, 0, in, out), "ins")
		}
	}
}
