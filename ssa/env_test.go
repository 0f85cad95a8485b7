package ssa_test

import (
	"math"
	"slices"
	"strings"
	"testing"

	"bellcrank/api"
	"bellcrank/ssa"
)

// envIs holds that EnvRight answers whether e may be, and the oracle, too; and that Check takes a function in such a one alone.
func envIs(t *testing.T, what string, e api.Env, right bool) {
	t.Helper()
	if have := envRight(e); have != right {
		t.Errorf("%s: the oracle says %v", what, have)
	}
	if have := ssa.EnvRight(e); have != right {
		t.Errorf("%s: EnvRight answers %v", what, have)
	}
	if have := ssa.Check(e, fn(">", "", "| tick | ret")); have != right {
		t.Errorf("%s: Check answers %v", what, have)
	}
}

func manySigs(count int) []api.Sig { return slices.Repeat([]api.Sig{sig("il>l")}, count) }

// P8.1: how many Sigs there are.
func TestP81EnvSigs(t *testing.T) {
	envIs(t, "nothing", api.Env{}, true)
	envIs(t, "empty lists", api.Env{Sigs: []api.Sig{}, Globals: []int{}, Muts: []bool{}}, true)
	envIs(t, "a memory alone", api.Env{Mem: true}, true)
	envIs(t, "some of all", world(), true)
	for count, right := range map[int]bool{1: true, 63: true, 64: true, 65: false, 66: false, 1000: false} {
		envIs(t, "many Sigs", api.Env{Sigs: manySigs(count)}, right)
	}
}

// P8.1: each Sig, also the last one.
func TestP81EnvSig(t *testing.T) {
	for text, right := range map[string]bool{
		">": true, "i>": true, ">l": true, "iiiiiiii>llllllll": true, "iiiiiiiii>": false, ">iiiiiiiii": false, "iiiiiiiii>iiiiiiiii": false,
		"illillil>": true, ">ilililil": true, "x>": false, ">x": false, "iiiiiiix>": false, ">lllllllx": false, "xiiiiiii>i": false,
	} {
		envIs(t, text, api.Env{Sigs: []api.Sig{sig(text)}}, right)
		envIs(t, text+" as the last one", api.Env{Sigs: append(manySigs(63), sig(text))}, right)
	}
	for _, wrong := range []int{0, 1, 0x40, 0x70, 0x7b, 0x7c, 0x7d, 0x80, -1, 0x7f + 1<<8, 0x7e + 1<<32, -0x7f, math.MinInt, math.MaxInt} {
		envIs(t, "a wrong type in In", api.Env{Sigs: []api.Sig{{In: []int{wrong}}}}, false)
		envIs(t, "a wrong type in Out", api.Env{Sigs: []api.Sig{{Out: []int{api.I32, wrong}}}}, false)
		envIs(t, "a wrong global", api.Env{Globals: []int{wrong}, Muts: []bool{true}}, false)
		envIs(t, "a wrong global as the last one", api.Env{Globals: append(types(strings.Repeat("i", 31)), wrong), Muts: make([]bool, 32)}, false)
	}
	long := api.Env{Sigs: []api.Sig{{In: make([]int, 1<<20), Out: make([]int, 1<<20)}}}
	envIs(t, "very long lists", long, false)
}

// P8.1: Imports from 0 to how many Sigs there are.
func TestP81EnvImports(t *testing.T) {
	for _, count := range []int{0, 1, 2, 64} {
		for _, n := range []int{math.MinInt, -65, -1, 0, 1, 2, 3, 63, 64, 65, 1 << 32, math.MaxInt} {
			envIs(t, "Imports", api.Env{Sigs: manySigs(count), Imports: n}, n >= 0 && n <= count)
		}
	}
}

// P8.1: how many Globals there are, and as many Muts.
func TestP81EnvGlobals(t *testing.T) {
	for globals := range 35 {
		for muts := range 35 {
			e := api.Env{Globals: types(strings.Repeat("il", 20)[:globals]), Muts: make([]bool, muts)}
			envIs(t, "Globals and Muts", e, globals == muts && globals <= 32)
		}
	}
}

// P8.1: environments that part from one that may be in one thing.
func TestP81EnvTurned(t *testing.T) {
	yes, no := 0, 0
	allTurned(world(), func(e api.Env) {
		right := envRight(e)
		envIs(t, told(e), e, right)
		if right {
			yes++
		} else {
			no++
		}
	})
	if yes < 30 || no < 60 {
		t.Error("the environments are too much alike:", yes, no)
	}
}

// P8.1: a function may be in an environment only if that may be, whatever of it the function asks for.
func TestP81CheckInWrongEnv(t *testing.T) {
	for what, turn := range map[string]func(e *api.Env){
		"a Sig":     func(e *api.Env) { e.Sigs[1].Out = types("x") },
		"Imports":   func(e *api.Env) { e.Imports = 4 },
		"a global":  func(e *api.Env) { e.Globals[2] = 0 },
		"Muts":      func(e *api.Env) { e.Muts = e.Muts[:2] },
		"many Muts": func(e *api.Env) { e.Muts = make([]bool, 4) },
	} {
		e := world()
		f := fn("i>i", "ii", "0 | tick; 23#0 = 1 | ret 1")
		checks(t, "the world", e, f, "")
		turn(&e)
		checks(t, what, e, f, "env")
	}
}
