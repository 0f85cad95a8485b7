package spec

import (
	"bellcrank/api"
	"bellcrank/typing"
)

// run is a call from outside that is under way: its module, the state that it works on, and how many calls of the module's own functions are within one another.
type run struct {
	api.State
	m     api.Module
	depth int
}

// trap is what ends a run, thrown where it comes up.
type trap api.Errno

func fail(why api.Errno) { panic(trap(why)) }

// check ends the run, if why is a trap.
func check(why api.Errno) {
	if why != api.OK {
		fail(why)
	}
}

// whole does the call from outside. A trap ends it, however deep in calls and blocks it comes up, and is caught here; what the run has done to its state stays.
func (r *run) whole(n int, args []uint64) (results []uint64, why api.Errno) {
	defer func() {
		if thrown := recover(); thrown != nil {
			why = api.Errno(thrown.(trap))
		}
	}()
	return r.call(n, args), api.OK
}

// call calls the n-th function, which must be there, with arguments that fit it. It does not keep them.
func (r *run) call(n int, args []uint64) []uint64 {
	sig, _ := typing.SigOf(r.m, n)
	own := n - len(r.m.Imports)
	if own < 0 {
		r.Log = append(append(r.Log, uint64(n)), args...)
		return r.ask(sig.Out)
	}
	return r.function(r.m.Funcs[own], args, len(sig.Out))
}

// ask takes numbers of these types from what the host will answer.
func (r *run) ask(types []int) []uint64 {
	var answers []uint64
	for _, t := range types {
		if len(r.Input) == 0 {
			fail(api.TrapInput)
		}
		answers = append(answers, low(t, r.Input[0]))
		r.Input = r.Input[1:]
	}
	return answers
}

// low answers what n is as a number of the type t: of I32 its low bits.
func low(t int, n uint64) uint64 {
	if t == api.I32 {
		return uint64(uint32(n))
	}
	return n
}

// function does a function of the module, which answers so many results.
func (r *run) function(f api.Func, args []uint64, results int) []uint64 {
	if r.depth == api.MaxDepth {
		fail(api.TrapDeep)
	}
	r.tick()
	b := body{run: r, locals: make([]uint64, len(args)+len(f.Locals))}
	copy(b.locals, args)
	r.depth++
	b.do(f.Body)
	r.depth--
	return b.takeAll(results)
}

// tick takes one of the fuel.
func (r *run) tick() {
	if r.Fuel == 0 {
		fail(api.TrapFuel)
	}
	r.Fuel--
}
