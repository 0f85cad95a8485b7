package ssa_test

import (
	"slices"
	"strings"
	"testing"

	"bellcrank/api"
	"bellcrank/ssa"
)

// drawer makes a function that may be, by chance.
type drawer struct {
	*dice
	env api.Env
	fn  api.Fn
}

// drawn is a function that may be in e, of at most so many blocks.
func (d *dice) drawn(e api.Env, most int) api.Fn {
	w := drawer{dice: d, env: e}
	w.fn.Sig = api.Sig{In: d.types(4), Out: d.types(3)}
	w.graph(1 + d.roll(most))
	w.params()
	for _, b := range w.inOrder() {
		w.code(b)
	}
	w.ticks()
	for d.one(3) {
		w.fn.Types = append(w.fn.Types, d.types(1)...) // values that nothing makes
	}
	return d.mixed(w.fn)
}

// types are at most so many.
func (d *dice) types(most int) []int {
	var l []int
	for range d.roll(most + 1) {
		l = append(l, api.I64+d.roll(2))
	}
	return l
}

// graph draws so many blocks with ends, and leaves out what is not reached.
func (w *drawer) graph(count int) {
	w.fn.Blocks = make([]api.Block, count)
	for b := range w.fn.Blocks {
		t := &w.fn.Blocks[b].Term
		t.Kind = 1 + w.roll(3)
		if count == 1 || w.one(7) {
			t.Kind = 4 + w.roll(2)
		}
		for range []int{0, 1, 2, 1 + w.roll(5), 0, 0}[t.Kind] {
			to := 1 + w.roll(count-1)
			if !w.one(3) {
				to = min(b+1+w.roll(2), count-1)
			}
			t.To = append(t.To, api.Edge{To: to})
		}
	}
	j := judge{fn: w.fn}
	var kept []api.Block
	at := map[int]int{}
	for b, is := range j.reach(-1) {
		if is {
			at[b] = len(kept)
			kept = append(kept, w.fn.Blocks[b])
		}
	}
	for _, b := range kept {
		for i := range b.Term.To {
			b.Term.To[i].To = at[b.Term.To[i].To]
		}
	}
	w.fn.Blocks = kept
}

// make makes a new value.
func (w *drawer) make(t int) int {
	w.fn.Types = append(w.fn.Types, t)
	return len(w.fn.Types) - 1
}

func (w *drawer) params() {
	for b := range w.fn.Blocks {
		l := w.fn.Sig.In
		if b > 0 {
			l = w.types(3)
		}
		for _, t := range l {
			w.fn.Blocks[b].Params = append(w.fn.Blocks[b].Params, w.make(t))
		}
	}
}

// inOrder are the blocks, each behind all that dominate it.
func (w *drawer) inOrder() []int {
	j := judge{fn: w.fn, rest: map[int][]bool{}}
	j.all = j.reach(-1)
	over := func(b int) int {
		n := 0
		for a := range w.fn.Blocks {
			if j.dominates(a, b) {
				n++
			}
		}
		return n
	}
	l := upTo(len(w.fn.Blocks))
	slices.SortStableFunc(l, func(a, b int) int { return over(a) - over(b) })
	return l
}

// known are the values that are there at the end of what a block has so far.
func (w *drawer) known(b int) []int {
	j := judge{fn: w.fn, rest: map[int][]bool{}}
	j.all = j.reach(-1)
	var l []int
	for a, block := range w.fn.Blocks {
		if a != b && !j.dominates(a, b) {
			continue
		}
		l = append(l, block.Params...)
		for _, in := range block.Code {
			l = append(l, in.Outs...)
		}
	}
	return l
}

// pick is a value of a type; if there is none, a new number is made ahead.
func (w *drawer) pick(b, t int, known *[]int) int {
	var l []int
	for _, v := range *known {
		if w.fn.Types[v] == t {
			l = append(l, v)
		}
	}
	if len(l) > 0 && !w.one(9) {
		return l[w.roll(len(l))]
	}
	v := w.make(t)
	w.fn.Blocks[b].Code = append(w.fn.Blocks[b].Code, api.Ins{Op: api.OpConst, N: uint64(w.roll(9)), Outs: []int{v}})
	*known = append(*known, v)
	return v
}

func (w *drawer) pickAll(b int, l []int, known *[]int) []int {
	var out []int
	for _, t := range l {
		out = append(out, w.pick(b, t, known))
	}
	return out
}

// code draws a block's instructions, and what its end asks for.
func (w *drawer) code(b int) {
	known := w.known(b)
	for range w.roll(5) {
		k := kinds[w.roll(len(kinds))]
		if k.op == 0x102 || !insRight(w.env, k.op, k.n, k.in, k.out) {
			continue
		}
		in := api.Ins{Op: k.op, N: k.n, Args: w.pickAll(b, types(k.in), &known)}
		for _, t := range types(k.out) {
			in.Outs = append(in.Outs, w.make(t))
		}
		known = append(known, in.Outs...)
		w.fn.Blocks[b].Code = append(w.fn.Blocks[b].Code, in)
	}
	t := w.fn.Blocks[b].Term
	switch t.Kind {
	case 2, 3:
		t.Arg = w.pick(b, api.I32, &known)
	case 4:
		t.Args = w.pickAll(b, w.fn.Sig.Out, &known)
	}
	for i, e := range t.To {
		for _, p := range w.fn.Blocks[e.To].Params {
			t.To[i].Args = append(t.To[i].Args, w.pick(b, w.fn.Types[p], &known))
		}
	}
	w.fn.Blocks[b].Term = t
}

// ticks puts a tick ahead of all, some more, and one into each circle that has none.
func (w *drawer) ticks() {
	put := func(b, at int) {
		w.fn.Blocks[b].Code = slices.Insert(w.fn.Blocks[b].Code, at, tick)
	}
	put(0, 0)
	for b := range w.fn.Blocks {
		if w.one(5) || comesBack(w.fn, b) {
			put(b, w.roll(len(w.fn.Blocks[b].Code)+1))
		}
	}
	if w.fn.Blocks[0].Code[0].Op != api.OpTick {
		put(0, 0)
	}
}

// mixed changes the numbers of values, and of blocks but 0, by chance.
func (d *dice) mixed(f api.Fn) api.Fn {
	values, blocks := d.shuffled(len(f.Types), 0), d.shuffled(len(f.Blocks), 1)
	out := clone(f)
	for v, to := range values {
		out.Types[to] = f.Types[v]
	}
	for b, to := range blocks {
		out.Blocks[to] = clone(f.Blocks[b])
	}
	change := func(l []int) {
		for i := range l {
			l[i] = values[l[i]]
		}
	}
	for b := range out.Blocks {
		block := &out.Blocks[b]
		change(block.Params)
		for _, in := range block.Code {
			change(in.Args)
			change(in.Outs)
		}
		if block.Term.Kind == 2 || block.Term.Kind == 3 {
			block.Term.Arg = values[block.Term.Arg]
		}
		change(block.Term.Args)
		for i := range block.Term.To {
			block.Term.To[i].To = blocks[block.Term.To[i].To]
			change(block.Term.To[i].Args)
		}
	}
	return out
}

// shuffled are the numbers up to count, those from keep on changed with one another by chance.
func (d *dice) shuffled(count, keep int) []int {
	l := upTo(count)
	for n := count - 1; n > keep; n-- {
		other := keep + d.roll(n-keep+1)
		l[n], l[other] = l[other], l[n]
	}
	return l
}

// mayBe are functions that may be in the world, drawn by chance.
func mayBe(count int) []api.Fn {
	var l []api.Fn
	for seed := range count {
		d := dice(seed)
		most := 9
		if seed%10 == 0 {
			most = 40
		}
		l = append(l, d.drawn(world(), most))
	}
	return l
}

// P8.1: functions that may be, drawn by chance.
func TestP81Drawn(t *testing.T) {
	t.Parallel()
	blocks, circles := 0, 0
	for _, f := range mayBe(1500) {
		if l := faults(world(), f); len(l) > 0 {
			t.Fatal("the test draws what may not be:", l, told(f))
		}
		if !ssa.Check(world(), f) {
			t.Error("Check refuses", told(f))
		}
		blocks = max(blocks, len(f.Blocks))
		g := clone(f)
		for b := range g.Blocks {
			g.Blocks[b].Code = nil
		}
		for b := range g.Blocks {
			if comesBack(g, b) {
				circles++
			}
		}
	}
	if blocks < 20 || circles < 500 {
		t.Error("the functions are too plain:", blocks, circles)
	}
}

// spots are all places of a function in which a block's, a value's or another number stands.
func spots(f *api.Fn) []*int {
	var l []*int
	all := func(list []int) {
		for i := range list {
			l = append(l, &list[i])
		}
	}
	for b := range f.Blocks {
		block := &f.Blocks[b]
		all(block.Params)
		for i := range block.Code {
			l = append(l, &block.Code[i].Op)
			all(block.Code[i].Args)
			all(block.Code[i].Outs)
		}
		l = append(l, &block.Term.Kind, &block.Term.Arg)
		all(block.Term.Args)
		for i := range block.Term.To {
			l = append(l, &block.Term.To[i].To)
			all(block.Term.To[i].Args)
		}
	}
	all(f.Types)
	return l
}

// spoiled is a function turned a little by chance.
func (d *dice) spoiled(f api.Fn) api.Fn {
	f = clone(f)
	b := &f.Blocks[d.roll(len(f.Blocks))]
	switch d.roll(5) {
	case 0:
		if n := len(b.Code); n > 1 {
			i := d.roll(n - 1)
			b.Code[i], b.Code[i+1] = b.Code[i+1], b.Code[i]
		}
	case 1:
		if n := len(b.Code); n > 0 {
			in := b.Code[n-1]
			b.Code = b.Code[:n-1]
			other := &f.Blocks[d.roll(len(f.Blocks))]
			other.Code = append(other.Code, in)
		}
	case 2:
		if n := len(b.Term.To); n > 0 {
			b.Term.To[d.roll(n)].To = d.roll(len(f.Blocks) + 1)
		}
	default:
		all := spots(&f)
		n, m := d.roll(len(all)), d.roll(len(all))
		*all[n] = *all[m]
	}
	return f
}

// P8.1: functions that were turned a little: Check says what the oracle does.
func TestP81Spoiled(t *testing.T) {
	t.Parallel()
	count := map[string]int{}
	for seed, f := range mayBe(600) {
		d := dice(seed)
		for range 15 {
			g := d.spoiled(f)
			rules := faults(world(), g)
			if have := ssa.Check(world(), g); have != (len(rules) == 0) {
				t.Errorf("Check answers %v, the oracle %s, of %s", have, rules, told(g))
			}
			for _, rule := range rules {
				count[rule]++
			}
			if len(rules) == 0 {
				count["none"]++
			}
		}
	}
	for _, rule := range []string{"none", "there", "reached", "ins", "circle", "tick", "edge", "target", "made", "kind", "args", "arg"} {
		if count[rule] < 20 {
			t.Error("too few functions break", rule, count)
		}
	}
}

// P8.1: functions that are turned in each place.
func TestP81Turned(t *testing.T) {
	t.Parallel()
	count := 0
	small := append(mayBe(60), ends(), example())
	for _, f := range small {
		if len(spots(&f)) > 120 {
			continue
		}
		allTurned(f, func(g api.Fn) {
			rules := faults(world(), g)
			if have := ssa.Check(world(), g); have != (len(rules) == 0) {
				t.Errorf("Check answers %v, the oracle %s, of %s", have, rules, told(g))
			}
			count++
		})
	}
	if count < 20000 {
		t.Error("too few functions:", count)
	}
}

// P8.3: replaced by itself a function is the same, with each list that leaves its values as they are.
func TestP83Itself(t *testing.T) {
	for seed, f := range mayBe(400) {
		d := dice(seed)
		for _, count := range []int{0, 1, len(f.Types) / 2, len(f.Types), len(f.Types) + 9} {
			g := ssa.Replace(f, upTo(count))
			if !ssa.Same(f, g) || !equal(f, g) || !ssa.Check(world(), g) {
				t.Error("replaced by itself it turns:", told(f), told(g))
			}
		}
		if g := ssa.Replace(f, nil); !ssa.Same(g, f) {
			t.Error("replaced by nothing it turns:", told(f), told(g))
		}
		for range 5 {
			g := d.spoiled(f)
			if !ssa.Same(g, ssa.Replace(g, upTo(len(g.Types)))) {
				t.Error("replaced by itself it turns:", told(g))
			}
		}
	}
}

// P8.4: a pure instruction more, whose Out is new and whose Args are there, leaves it one that may be.
func TestP84PureMore(t *testing.T) {
	t.Parallel()
	count := map[int]int{}
	for seed, f := range mayBe(500) {
		d := dice(seed)
		for range 8 {
			g, op := d.withPure(f)
			if !ssa.Check(world(), g) {
				t.Errorf("with %x more it may not be: %s", op, told(g))
			}
			count[op]++
		}
	}
	if len(count) < 60 {
		t.Error("too few operators:", count)
	}
}

// withPure puts a pure instruction somewhere behind the first tick, of values that are there.
func (d *dice) withPure(f api.Fn) (api.Fn, int) {
	f = clone(f)
	w := drawer{dice: d, env: world(), fn: f}
	b := d.roll(len(f.Blocks))
	block := &f.Blocks[b]
	at := d.roll(len(block.Code) + 1)
	if b == 0 {
		at = 1 + d.roll(len(block.Code))
	}
	rest := block.Code[at:]
	block.Code = slices.Clone(block.Code[:at])
	known := w.known(b)
	for {
		op := 0x45 + d.roll(0x80)
		if d.one(5) {
			op = 0x1b
		}
		in, fits := ofValues(d, f, op, known)
		if !fits {
			in = api.Ins{Op: api.OpConst, N: uint64(d.roll(1 << 30))}
		} else if !ssa.Pure(op) {
			continue
		}
		in.Outs = []int{len(f.Types)}
		f.Types = append(f.Types, outType(d, f, in))
		block.Code = append(append(block.Code, in), rest...)
		return f, in.Op
	}
}

// ofValues is an instruction with this operator of values that are known, if there are ones.
func ofValues(d *dice, f api.Fn, op int, known []int) (api.Ins, bool) {
	shape, is := shapeOf(op)
	want, _, _ := strings.Cut(shape, ">")
	if op == 0x1b {
		want, is = []string{"iii", "lli"}[d.roll(2)], true
	}
	in := api.Ins{Op: op}
	for _, t := range types(want) {
		var l []int
		for _, v := range known {
			if f.Types[v] == t {
				l = append(l, v)
			}
		}
		if len(l) == 0 {
			return in, false
		}
		in.Args = append(in.Args, l[d.roll(len(l))])
	}
	return in, is
}

// outType is the type of what an instruction answers.
func outType(d *dice, f api.Fn, in api.Ins) int {
	if in.Op == api.OpConst {
		return api.I64 + d.roll(2)
	}
	if in.Op == 0x1b {
		return f.Types[in.Args[0]]
	}
	shape, _ := shapeOf(in.Op)
	_, out, _ := strings.Cut(shape, ">")
	return types(out)[0]
}

// P8.4: as long as there is room: the last value and the last instruction that may be, and one more.
func TestP84Room(t *testing.T) {
	f := example()
	for v := 1; v < 2048; v++ {
		f.Types = append(f.Types, api.I64)
		f.Blocks[0].Code = append(f.Blocks[0].Code, api.Ins{Op: api.OpConst, Outs: []int{v}})
	}
	checks(t, "as many values as may be", world(), f, "")
	f.Blocks[0].Code = append(f.Blocks[0].Code, api.Ins{Op: api.OpConst, Outs: []int{2048}})
	f.Types = append(f.Types, api.I64)
	checks(t, "one more", world(), f, "types")
}
