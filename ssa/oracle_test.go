package ssa_test

import (
	"slices"
	"strconv"
	"strings"

	"bellcrank/api"
)

// shapes are what operators of numbers and accesses ask for and give, as layers 2 and 3 have it.
const shapes = `
45 45 i>i   46 4f ii>i   50 50 l>i   51 5a ll>i
67 69 i>i   6a 78 ii>i   79 7b l>l   7c 8a ll>l
a7 a7 l>i   ac ad i>l    c0 c1 i>i   c2 c4 l>l
28 28 i>i   29 29 i>l    2c 2f i>i   30 35 i>l
36 36 ii>   37 37 il>    3a 3b ii>   3c 3e il>
3f 3f >i    40 40 i>i`

// shapeOf is what an operator asks for and gives, if the types and N do not tell it too.
func shapeOf(op int) (string, bool) {
	w := strings.Fields(shapes)
	for i := 0; i < len(w); i += 3 {
		from, _ := strconv.ParseInt(w[i], 16, 64)
		to, _ := strconv.ParseInt(w[i+1], 16, 64)
		if op >= int(from) && op <= int(to) {
			return w[i+2], true
		}
	}
	return "", false
}

// pureByWords tells whether an operator is pure.
func pureByWords(op int) bool {
	division := op >= 0x6d && op <= 0x70 || op >= 0x7f && op <= 0x82
	_, is := shapeOf(op)
	return op == 0x100 || op == 0x1b || is && op >= 0x45 && !division
}

// letter is a type as it is read: ? is none.
func letter(t int) byte {
	switch t {
	case 0x7f:
		return 'i'
	case 0x7e:
		return 'l'
	}
	return '?'
}

func letters(l []int) string {
	text := make([]byte, len(l))
	for i, t := range l {
		text[i] = letter(t)
	}
	return string(text)
}

// insRight tells whether an instruction with this operator and N may have Args and Outs of these types.
func insRight(e api.Env, op int, n uint64, in, out string) bool {
	shape := in + ">" + out
	switch op {
	case 0x100:
		return shape == ">l" || shape == ">i" && n < 1<<32
	case 0x102:
		return shape == ">" && n == 0
	case 0x1b:
		return (shape == "iii>i" || shape == "lli>l") && n == 0
	case 0x23:
		return n < uint64(len(e.Globals)) && shape == ">"+letters(e.Globals[n:n+1])
	case 0x24:
		return n < uint64(len(e.Globals)) && shape == letters(e.Globals[n:n+1])+">" && e.Muts[n]
	case 0x10:
		return n < uint64(len(e.Sigs)) && shape == letters(e.Sigs[n].In)+">"+letters(e.Sigs[n].Out)
	case 0x101:
		return e.Mem && shape == "i>" && n <= 8589934592
	}
	want, is := shapeOf(op)
	most := uint64(0)
	if op >= 0x28 && op <= 0x3e {
		most = 4294967295
	}
	return is && shape == want && n <= most && (e.Mem || op > 0x40)
}

// envRight tells whether an environment may be.
func envRight(e api.Env) bool {
	all := len(e.Sigs) < 65 && e.Imports > -1 && len(e.Sigs)-e.Imports > -1 && len(e.Globals) < 33 && len(e.Globals) == len(e.Muts)
	for _, s := range e.Sigs {
		all = all && sigRight(s)
	}
	return all && !strings.Contains(letters(e.Globals), "?")
}

func sigRight(s api.Sig) bool {
	return len(s.In) < 9 && len(s.Out) < 9 && !strings.Contains(letters(s.In)+letters(s.Out), "?")
}

// judge tells which of the document's rules a function breaks, each one by itself, as far as what others ask for lets it.
type judge struct {
	env    api.Env
	fn     api.Fn
	broken map[string]bool
	all    []bool         // which blocks are reached
	rest   map[int][]bool // which are without a block
	home   map[int][2]int // of each value its block, and how many instructions are begun there when it is made
}

// faults are the rules that are broken, as words.
func faults(e api.Env, f api.Fn) []string {
	j := judge{env: e, fn: f, broken: map[string]bool{}, rest: map[int][]bool{}, home: map[int][2]int{}}
	j.breaks("env", !envRight(e))
	j.sizes()
	if !j.broken["env"] && !j.broken["blocks"] {
		j.all = j.reach(-1)
		j.breaks("reached", slices.Contains(j.all, false))
		j.makings()
		j.blocks()
		j.ticks()
	}
	var l []string
	for rule := range j.broken {
		l = append(l, rule)
	}
	slices.Sort(l)
	return l
}

func (j *judge) breaks(rule string, is bool) {
	if is {
		j.broken[rule] = true
	}
}

// sizes looks at how much there is of anything.
func (j *judge) sizes() {
	f := j.fn
	j.breaks("blocks", len(f.Blocks) < 1 || len(f.Blocks) > 256)
	j.breaks("types", len(f.Types) > 2048 || strings.Contains(letters(f.Types), "?"))
	j.breaks("sig", !sigRight(f.Sig))
	long := max(len(f.Sig.In), len(f.Sig.Out), len(f.Types), len(f.Blocks))
	code := 0
	for _, b := range f.Blocks {
		j.breaks("params", len(b.Params) > 256)
		code += len(b.Code)
		long = max(long, len(b.Params), len(b.Code), len(b.Term.Args), len(b.Term.To))
		for _, in := range b.Code {
			long = max(long, len(in.Args), len(in.Outs))
		}
		for _, e := range b.Term.To {
			long = max(long, len(e.Args))
		}
	}
	j.breaks("code", code > 4096)
	j.breaks("list", long > 4096)
}

// reach tells what block 0 reaches without a block (-1: with all), past To that are none.
func (j *judge) reach(without int) []bool {
	in := make([]bool, len(j.fn.Blocks))
	wait := []int{0}
	for len(wait) > 0 {
		b := wait[0]
		wait = wait[1:]
		if b < 0 || b >= len(in) || b == without || in[b] {
			continue
		}
		in[b] = true
		for _, e := range j.fn.Blocks[b].Term.To {
			wait = append(wait, e.To)
		}
	}
	return in
}

// dominates tells it by what is reached without a block.
func (j *judge) dominates(a, b int) bool {
	if j.rest[a] == nil {
		j.rest[a] = j.reach(a)
	}
	return j.all[a] && j.all[b] && !j.rest[a][b]
}

// makings looks for values that are made twice, and for what is made and is none.
func (j *judge) makings() {
	for b, block := range j.fn.Blocks {
		j.makeAll(block.Params, b, 0)
		for i, in := range block.Code {
			j.makeAll(in.Outs, b, i+1)
		}
	}
}

func (j *judge) makeAll(l []int, b, at int) {
	for _, v := range l {
		_, twice := j.home[v]
		j.breaks("made", twice || v < 0 || v >= len(j.fn.Types))
		j.home[v] = [2]int{b, at}
	}
}

// of are the types of values as letters.
func (j *judge) of(l []int) string {
	text := make([]byte, len(l))
	for i, v := range l {
		text[i] = '?'
		if v >= 0 && v < len(j.fn.Types) {
			text[i] = letter(j.fn.Types[v])
		}
	}
	return string(text)
}

// asks looks whether values are there, where so many instructions of a block are begun. What is no value has a wrong type, which is told elsewhere.
func (j *judge) asks(l []int, b, begun int) {
	for _, v := range l {
		if v < 0 || v >= len(j.fn.Types) {
			continue
		}
		home, is := j.home[v]
		there := is && (home[0] == b && home[1] < begun || home[0] != b && j.dominates(home[0], b))
		j.breaks("there", !there)
	}
}

func (j *judge) blocks() {
	j.breaks("first", j.of(j.fn.Blocks[0].Params) != letters(j.fn.Sig.In))
	for b, block := range j.fn.Blocks {
		for i, in := range block.Code {
			j.breaks("ins", !insRight(j.env, in.Op, in.N, j.of(in.Args), j.of(in.Outs)))
			j.asks(in.Args, b, i+1)
		}
		j.end(block.Term, b, len(block.Code)+1)
	}
}

// end looks at an end by what its Kind asks for: how many To, whether an Arg, and the types of Args.
func (j *judge) end(t api.Term, b, begun int) {
	least, most, arg, args := 0, 0, false, ""
	switch t.Kind {
	case 1:
		least, most = 1, 1
	case 2:
		least, most, arg = 2, 2, true
	case 3:
		least, most, arg = 1, 65, true
	case 4:
		args = letters(j.fn.Sig.Out)
	case 5:
	default:
		j.breaks("kind", true)
		return
	}
	j.breaks("to", len(t.To) < least || len(t.To) > most)
	j.breaks("args", j.of(t.Args) != args)
	if arg {
		j.breaks("arg", j.of([]int{t.Arg}) != "i")
		j.asks([]int{t.Arg}, b, begun)
	} else {
		j.breaks("arg", t.Arg != 0)
	}
	j.asks(t.Args, b, begun)
	for _, e := range t.To {
		j.asks(e.Args, b, begun)
		if e.To < 1 || e.To >= len(j.fn.Blocks) {
			j.breaks("target", true)
		} else {
			j.breaks("edge", j.of(e.Args) != j.of(j.fn.Blocks[e.To].Params))
		}
	}
}

// ticks looks for the first tick, and for circles.
func (j *judge) ticks() {
	first := j.fn.Blocks[0].Code
	j.breaks("tick", len(first) == 0 || first[0].Op != 0x102)
	for b := range j.fn.Blocks {
		j.breaks("circle", comesBack(j.fn, b))
	}
}

func hasTick(b api.Block) bool {
	return slices.ContainsFunc(b.Code, func(in api.Ins) bool { return in.Op == 0x102 })
}

// comesBack tells whether a way from a block to itself goes through no tick.
func comesBack(f api.Fn, begin int) bool {
	met := map[int]bool{}
	var walk func(b int) bool
	walk = func(b int) bool {
		if b < 0 || b >= len(f.Blocks) || met[b] || hasTick(f.Blocks[b]) {
			return false
		}
		met[b] = true
		return slices.ContainsFunc(f.Blocks[b].Term.To, func(e api.Edge) bool {
			return e.To == begin && !hasTick(f.Blocks[begin]) || walk(e.To)
		})
	}
	return walk(begin)
}
