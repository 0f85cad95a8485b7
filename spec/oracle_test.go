package spec_test

import (
	"slices"

	"bellcrank/api"
	"bellcrank/num"
	"bellcrank/typing"
)

// step is an operator in a row of them, or an end of one: else, or end. At is where its block's other steps stand.
type step struct {
	in   api.Instr
	end  string
	els  int // of an if: the first step of its Else, or its end
	last int // of a block, and of an else: the end
}

// inRow lays operators in a row behind others.
func inRow(row []step, l []api.Instr) []step {
	for _, in := range l {
		own := len(row)
		row = append(row, step{in: in})
		if in.Op < 2 || in.Op > 4 {
			continue
		}
		row = inRow(row, in.Body)
		row[own].els = len(row)
		if in.HasElse {
			row = append(row, step{end: "else"})
			row[own].els++
			row = inRow(row, in.Else)
			row[row[own].els-1].last = len(row)
		}
		row[own].last = len(row)
		row = append(row, step{end: "end"})
	}
	return row
}

// opened is a block that is open: where it stands in the row, and how much lay beneath it.
type opened struct{ at, beneath int }

// going is a call of a function of the module that is under way.
type going struct {
	row     []step
	at      int
	locals  []uint64
	stack   []uint64
	open    []opened
	results int
}

// teller says what Call must, as the document's words do, once more and in another way: operators and ends stand in a row, a branch goes to a place in it, calls stand on a list, and one step is done behind the other, without anything that calls itself. A memory's bytes are added up.
type teller struct {
	m     api.Module
	s     api.State
	calls []*going
	last  []uint64
	why   api.Errno
}

// fitting tells whether a state fits, as the document says.
func fitting(m api.Module, s api.State) bool {
	if typing.Check(m).Why != 0 || len(s.Globals) != len(m.Globals) {
		return false
	}
	for i, g := range m.Globals {
		if g.Type == 0x7f && s.Globals[i] > 1<<32-1 {
			return false
		}
	}
	most := 4096
	if m.Pages < 0 {
		most = 0
	}
	bytes := len(s.Mem)
	return bytes%256 == 0 && bytes <= s.Most && s.Most <= most && s.Fuel >= 0 && s.Fuel <= 1024 && len(s.Input) <= 4096 && len(s.Log) <= 4096
}

// told answers what Call must.
func told(m api.Module, s api.State, n int, args []uint64) outcome {
	w := teller{m: m, s: clone(s)}
	if !fitting(m, s) {
		return outcome{state: w.s, why: api.ErrForm}
	}
	if n < 0 || n >= len(m.Imports)+len(m.Funcs) {
		return outcome{state: w.s, why: api.ErrArg}
	}
	in := w.sig(n).In
	wrong := len(in) != len(args)
	for i, t := range in {
		wrong = wrong || t == 0x7f && args[i] > 1<<32-1
	}
	if wrong {
		return outcome{state: w.s, why: api.ErrArg}
	}
	w.call(n, args)
	for len(w.calls) > 0 && w.why == 0 {
		w.step(w.calls[len(w.calls)-1])
	}
	if w.why != 0 {
		return outcome{state: w.s, why: w.why}
	}
	return outcome{results: w.last, state: w.s}
}

func (w *teller) sig(n int) api.Sig {
	if n < len(w.m.Imports) {
		return w.m.Types[w.m.Imports[n].Type]
	}
	return w.m.Types[w.m.Funcs[n-len(w.m.Imports)].Type]
}

// must is the trap, if something does not hold, and there was no other one.
func (w *teller) must(holds bool, why api.Errno) bool {
	if !holds && w.why == 0 {
		w.why = why
	}
	return holds
}

// call begins a call. Of a host's function it is all of it.
func (w *teller) call(n int, args []uint64) {
	t := w.sig(n)
	if n < len(w.m.Imports) {
		w.s.Log = slices.Concat(w.s.Log, []uint64{uint64(n)}, args)
		var got []uint64
		for _, kind := range t.Out {
			if !w.must(len(w.s.Input) > 0, api.TrapInput) {
				return
			}
			a := w.s.Input[0]
			if kind == 0x7f {
				a %= 1 << 32
			}
			got, w.s.Input = append(got, a), slices.Delete(w.s.Input, 0, 1)
		}
		w.answer(got)
		return
	}
	if !w.must(len(w.calls) < 16, api.TrapDeep) || !w.tick() {
		return
	}
	f := w.m.Funcs[n-len(w.m.Imports)]
	locals := slices.Concat(args, make([]uint64, len(f.Locals)))
	w.calls = append(w.calls, &going{row: inRow(nil, f.Body), locals: locals, results: len(t.Out)})
}

// answer hands results on to who called.
func (w *teller) answer(results []uint64) {
	if len(w.calls) == 0 {
		w.last = results
		return
	}
	c := w.calls[len(w.calls)-1]
	c.stack = append(c.stack, results...)
}

func (w *teller) tick() bool {
	if !w.must(w.s.Fuel > 0, api.TrapFuel) {
		return false
	}
	w.s.Fuel--
	return true
}

// leave ends a call, with its results on top of its stack.
func (w *teller) leave(c *going) {
	w.calls = w.calls[:len(w.calls)-1]
	w.answer(slices.Clone(c.stack[len(c.stack)-c.results:]))
}

func (c *going) pop() uint64 {
	n := c.stack[len(c.stack)-1]
	c.stack = c.stack[:len(c.stack)-1]
	return n
}

func (c *going) push(n uint64) { c.stack = append(c.stack, n) }

// branch goes to the n-th frame: to a loop itself, as if it came to it again; behind the end of another block; out of the function.
func (w *teller) branch(c *going, n int) {
	if n == len(c.open) {
		w.leave(c)
		return
	}
	o := c.open[len(c.open)-1-n]
	c.open = c.open[:len(c.open)-1-n]
	block := c.row[o.at]
	label := len(block.in.Type.Out)
	c.at = block.last + 1
	if block.in.Op == 3 {
		label = len(block.in.Type.In)
		c.at = o.at
	}
	c.stack = slices.Concat(c.stack[:o.beneath], c.stack[len(c.stack)-label:])
}

// step does one step of the innermost call.
func (w *teller) step(c *going) {
	if c.at == len(c.row) {
		w.leave(c)
		return
	}
	at := c.at
	s := c.row[at]
	c.at++
	switch s.end {
	case "else":
		c.at = s.last
	case "end":
		c.open = c.open[:len(c.open)-1]
	default:
		w.operator(c, s, at)
	}
}

// operator does one operator, which stands at a place in its row.
func (w *teller) operator(c *going, s step, at int) {
	in := s.in
	switch in.Op {
	case 0x00:
		w.must(false, api.TrapEnd)
	case 0x03:
		w.tick()
		c.open = append(c.open, opened{at, len(c.stack) - len(in.Type.In)})
	case 0x04:
		if c.pop() == 0 {
			c.at = s.els
		}
		fallthrough
	case 0x02:
		c.open = append(c.open, opened{at, len(c.stack) - len(in.Type.In)})
	case 0x0c:
		w.branch(c, int(in.N))
	case 0x0d:
		if c.pop() != 0 {
			w.branch(c, int(in.N))
		}
	case 0x0e:
		n, all := c.pop(), in.Targets
		for len(all) > 1 && n > 0 {
			n, all = n-1, all[1:]
		}
		w.branch(c, all[0])
	case 0x0f:
		w.leave(c)
	case 0x10:
		in := len(w.sig(int(in.N)).In)
		args := slices.Clone(c.stack[len(c.stack)-in:])
		c.stack = c.stack[:len(c.stack)-in]
		w.call(int(s.in.N), args)
	default:
		w.plain(c, in)
	}
}

// plain does an operator that goes nowhere else.
func (w *teller) plain(c *going, in api.Instr) {
	switch in.Op {
	case 0x01:
	case 0x1a:
		c.pop()
	case 0x1b:
		if n, second := c.pop(), c.pop(); n == 0 {
			c.pop()
			c.push(second)
		}
	case 0x20:
		c.push(c.locals[in.N])
	case 0x21:
		c.locals[in.N] = c.pop()
	case 0x22:
		c.locals[in.N] = c.stack[len(c.stack)-1]
	case 0x23:
		c.push(w.s.Globals[in.N])
	case 0x24:
		w.s.Globals[in.N] = c.pop()
	case 0x3f:
		c.push(uint64(len(w.s.Mem)) / 256)
	case 0x40:
		w.grow(c)
	case 0x41, 0x42:
		c.push(in.N)
	default:
		w.access(c, in)
	}
}

func (w *teller) grow(c *going) {
	have, more := len(w.s.Mem)/256, c.pop()
	if more > 16 || have+int(more) > 16 || (have+int(more))*256 > w.s.Most {
		c.push(1<<32 - 1)
		return
	}
	w.s.Mem = append(w.s.Mem, make([]byte, more*256)...)
	c.push(uint64(have))
}

// widths are how many bytes the accesses from 28 on have; of floating numbers 0.
var widths = []int{4, 8, 0, 0, 1, 1, 2, 2, 1, 1, 2, 2, 4, 4, 4, 8, 0, 0, 1, 2, 1, 2, 4}

// access does an access, and an operator of numbers.
func (w *teller) access(c *going, in api.Instr) {
	op := in.Op
	if op < 0x28 || op > 0x3e {
		types, _, _ := num.Sig(op)
		n, why := num.Eval(op, c.stack[len(c.stack)-len(types):]...)
		c.stack = c.stack[:len(c.stack)-len(types)]
		w.must(why == 0, why)
		c.push(n)
		return
	}
	n := uint64(0)
	if op >= 0x36 {
		n = c.pop()
	}
	from, width := c.pop()+in.N, widths[op-0x28]
	if !w.must(from+uint64(width) <= uint64(len(w.s.Mem)), api.TrapMem) {
		return
	}
	piece := w.s.Mem[from : from+uint64(width)]
	if op >= 0x36 {
		for i := range piece {
			piece[i] = byte(n % 256)
			n /= 256
		}
		return
	}
	for i, b := range piece {
		n += uint64(b) << (8 * i)
	}
	if op >= 0x2c && op%2 == 0 && piece[width-1] >= 128 {
		n -= 1 << (8 * width)
	}
	if op == 0x28 || op >= 0x2c && op <= 0x2f {
		n %= 1 << 32
	}
	c.push(n)
}
