package spec_test

import (
	"strconv"
	"strings"
	"testing"

	"bellcrank/api"
	"bellcrank/spec"
)

// P6.3: a call by 10 takes its arguments from the stack, the last one on top, and puts the results there.
func TestP63Calls(t *testing.T) {
	answers(t, ">i", "41:7 10:3", "", "7")
	answers(t, ">il", "42:1 41:2 10:5", "", "2 1")
	answers(t, ">lil", "42:9 42:1 41:2 10:5", "", "9 2 1")
	answers(t, ">lil", "42:9 42:1 41:2 10:5 21:0 10:3 20:0", "", "9 2 1")
	answers(t, "i>i", "20:0 04>i 20:0 20:0 41:1 6b 10:4 6c else 41:1 end", "5", "120")
	// From outside, too.
	m := world()
	s := begun(m)
	want := outcome{results: []uint64{8, 1<<64 - 1}, state: clone(s)}
	want.state.Fuel--
	calls(t, "a function of two numbers", m, s, swap, []uint64{1<<64 - 1, 8}, want)
	// What the caller has left on its stack is out of the called one's reach, and stays.
	m = bodyOf("ii>ii", "20:1 20:0 04>i 41:5 41:6 20:0 41:1 6b 20:1 41:1 6a 10:4 6a 6a 6a else 20:1 end")
	want = outcome{results: []uint64{2, 33}, state: clone(s)}
	want.state.Fuel -= 3
	calls(t, "a function that calls itself", m, s, under, []uint64{2, 2}, want)
}

// P6.3: a call of a host's function: its number and the arguments come behind the Log, then its results are the first of Input.
func TestP63Host(t *testing.T) {
	input := func(l ...uint64) func(s *api.State) {
		return func(s *api.State) { s.Input, s.Log = l, []uint64{77} }
	}
	now := func(fuel int, input []uint64, log ...uint64) func(s *api.State) {
		return func(s *api.State) {
			s.Fuel -= fuel
			s.Input, s.Log = input, append([]uint64{77}, log...)
		}
	}
	leaves(t, ">", "10:1", "", input(5, 6), "", api.OK, now(1, []uint64{5, 6}, 1))
	leaves(t, ">l", "41:8 42:-1 10:0", "", input(5, 6), "5", api.OK, now(1, []uint64{6}, 0, 8, 1<<64-1))
	leaves(t, ">l", "41:8 42:9 10:0", "", input(1<<64-2), "18446744073709551614", api.OK, now(1, nil, 0, 8, 9))
	leaves(t, ">ili", "41:8 10:2", "", input(1, 2, 3, 4), "1 2 3", api.OK, now(1, []uint64{4}, 2, 8))
	leaves(t, ">lili", "42:9 41:-1 10:2", "", input(1<<32, 1<<63, 1<<64-1), "9 0 9223372036854775808 4294967295", api.OK, now(1, nil, 2, 1<<32-1))
	leaves(t, ">ili", "41:8 10:2", "", input(1<<32+5, 1<<32+6, 1<<63+7), "5 4294967302 7", api.OK, now(1, nil, 2, 8))
	leaves(t, ">ll", "41:8 42:9 10:0 10:1 41:3 42:4 10:0", "", input(5, 6, 7), "5 6", api.OK, now(1, []uint64{7}, 0, 8, 9, 1, 0, 3, 4))
	leaves(t, ">", "03 10:1 41:0 0d:0 end 10:1", "", input(), "", api.OK, now(2, nil, 1, 1))
	// TrapInput at each of the results: what was told stays, what was taken is gone.
	leaves(t, ">l", "41:8 42:9 10:0 41:0 24:0", "", input(), "", api.TrapInput, now(1, nil, 0, 8, 9))
	for have := range 3 {
		leaves(t, ">ili", "41:8 10:2 10:1", "", input([]uint64{1, 2}[:have]...), "", api.TrapInput, now(1, nil, 2, 8))
		leaves(t, ">lili", "41:6 42:7 10:0 41:8 10:2", "", input([]uint64{9, 1, 2}[:have+1]...), "", api.TrapInput, now(1, nil, 0, 6, 7, 2, 8))
	}
}

// P6.3: a host's function that is called from outside: it takes no tick, and is not deep.
func TestP63HostFromOutside(t *testing.T) {
	m := world()
	for _, have := range []int{0, 1, 1024} {
		s := begun(m)
		s.Fuel, s.Input, s.Log = have, []uint64{1<<33 + 4, 1 << 34, 1 << 35, 6}, []uint64{5}
		want := outcome{state: clone(s)}
		want.state.Log = []uint64{5, 1}
		calls(t, "stop", m, s, stop, nil, want)
		want.state.Log, want.state.Input, want.results = []uint64{5, 0, 8, 9}, s.Input[1:], s.Input[:1]
		calls(t, "tell", m, s, tell, []uint64{8, 9}, want)
		want.state.Log, want.state.Input, want.results = []uint64{5, 2, 8}, s.Input[3:], []uint64{4, 1 << 34, 0}
		calls(t, "ask", m, s, ask, []uint64{8}, want)
		for n := range 3 {
			s.Input = s.Input[:n]
			want = outcome{state: clone(s), why: api.TrapInput}
			want.state.Log, want.state.Input = []uint64{5, 2, 8}, nil
			calls(t, "ask of less", m, s, ask, []uint64{8}, want)
			s.Input = s.Input[:4]
		}
	}
}

// P6.3: a Log may grow past what a state may begin with.
func TestP63LongLog(t *testing.T) {
	m := bodyOf(">", "10:1 10:1")
	s := begun(m)
	s.Log = make([]uint64, 4095)
	want := outcome{state: clone(s)}
	want.state.Fuel--
	want.state.Log = append(want.state.Log, 1, 1)
	calls(t, "a Log of 4097", m, s, under, nil, want)
	calls(t, "a Log of 4097, again", m, want.state, under, nil, outcome{state: want.state, why: api.ErrForm})
	s.Log = s.Log[:4094]
	want.state.Log = want.state.Log[1:]
	calls(t, "a Log of 4096", m, s, under, nil, want)
	if !spec.Fits(m, want.state) {
		t.Error("a Log of 4096 does not fit")
	}
}

// deep is the world with a function that calls itself as often as it is told, and says at the bottom and on the way back what the state's first global is.
func deep() api.Module {
	return bodyOf("i>i", "23:0 41:1 6a 24:0 20:0 04>i 20:0 41:1 6b 10:4 41:1 6a else 10:1 41:100 end")
}

// P6.3: TrapDeep at the 17th call of a function of the module that is under way, and none at the 16th.
func TestP63Deep(t *testing.T) {
	m := deep()
	for n := range uint64(20) {
		s := begun(m)
		s.Globals[0] = 0
		want := outcome{results: []uint64{100 + n}, state: clone(s)}
		want.state.Globals[0], want.state.Log = n+1, []uint64{1}
		if n > 15 {
			want = outcome{state: clone(s), why: api.TrapDeep}
			want.state.Globals[0] = 16
		}
		want.state.Fuel -= int(want.state.Globals[0])
		calls(t, "calls within one another, so many more: "+strconv.Itoa(int(n)), m, s, under, []uint64{n}, want)
	}
	// What is too deep takes no tick, and comes ahead of the fuel's trap.
	for have, why := range map[int]api.Errno{15: api.TrapFuel, 16: api.TrapDeep, 17: api.TrapDeep} {
		s := begun(m)
		s.Fuel, s.Globals[0] = have, 0
		want := outcome{state: clone(s), why: why}
		want.state.Globals[0], want.state.Fuel = uint64(min(have, 16)), max(have-16, 0)
		calls(t, "a call of itself without end, with fuel "+strconv.Itoa(have), m, s, under, []uint64{99}, want)
	}
}

// P6.3: calls that are over are not under way any more.
func TestP63DeepAgain(t *testing.T) {
	answers(t, ">i", "41:7"+strings.Repeat(" 10:3", 40), "", "7")
	m := bodyOf("i>i", "20:0 04>i 20:0 41:1 6b 10:4 1a 20:0 41:1 6b 10:4 else 41:100 end")
	s := begun(m)
	s.Fuel = 1024
	want := outcome{results: []uint64{100}, state: clone(s)}
	want.state.Fuel -= 1<<9 - 1
	calls(t, "a tree of calls", m, s, under, []uint64{8}, want)
	want = outcome{state: spent(s), why: api.TrapFuel}
	calls(t, "a greater tree of calls", m, s, under, []uint64{15}, want)
	want = outcome{state: clone(s), why: api.TrapDeep}
	want.state.Fuel -= 16
	calls(t, "a tree that is too deep", m, s, under, []uint64{16}, want)
	// So are those that a return or a branch ended.
	m = bodyOf("i>", "20:0 04 02 03 0c:3 end end 00 else 03 0f end 00 end 00")
	put(&m, 0, "i>i", "", strings.Repeat("41:1 10:4 41:0 10:4 ", 10)+"41:5")
	want = outcome{results: []uint64{5}, state: begun(m)}
	want.state.Fuel -= 41
	calls(t, "calls that are ended by branches", m, begun(m), same, []uint64{0}, want)
}

// P6.3: a function that is called by another one counts as any, and a host's one does not.
func TestP63DeepOthers(t *testing.T) {
	m := bodyOf("i>i", "20:0 45 04>i 10:1 41:5 else 20:0 41:1 6b 10:3 end")
	put(&m, 0, "i>i", "", "20:0 45 04>i 41:6 else 20:0 41:1 6b 10:4 end")
	for n, c := range map[uint64]outcome{14: {results: []uint64{5}}, 15: {results: []uint64{6}}, 16: {why: api.TrapDeep}} {
		s := begun(m)
		c.state = clone(s)
		c.state.Fuel -= min(int(n)+1, 16)
		if n == 14 {
			c.state.Log = []uint64{1}
		}
		calls(t, "two functions that call each other", m, s, under, []uint64{n}, c)
	}
	// At the 16th call under way a host's function may be called.
	m = bodyOf("i>l", "20:0 04>l 20:0 41:1 6b 10:4 else 41:1 42:2 10:0 end")
	s := begun(m)
	s.Input = []uint64{3}
	want := outcome{results: []uint64{3}, state: clone(s)}
	want.state.Fuel, want.state.Input, want.state.Log = s.Fuel-16, nil, []uint64{0, 1, 2}
	calls(t, "a host's function at the bottom", m, s, under, []uint64{15}, want)
}

// P6.3: a trap in a called function ends all.
func TestP63TrapsWithin(t *testing.T) {
	for text, why := range map[string]api.Errno{
		"00": api.TrapEnd, "41:1 41:0 6e 1a": api.TrapZero, "41:-2147483648 41:-1 6d 1a": api.TrapOver, "41:256 2d:0 1a": api.TrapMem, "41:0 41:0 36:253": api.TrapMem,
		"41:1 42:2 10:0 1a": api.TrapInput, "41:1 10:4 1a": api.TrapDeep, "03 0c:0 end": api.TrapFuel,
	} {
		m := bodyOf("i>i", "41:1 24:0 02>i 03>i 41:7 20:0 10:3 6a end end 41:2 24:0")
		put(&m, 0, "i>i", "", "41:3 24:0 "+text+" 41:4 24:0 41:5")
		s := begun(m)
		got := called(t, text, m, s, under, []uint64{0})
		if got.why != why || len(got.results) > 0 || got.state.Globals[0] != 3 || got.state.Fuel > fuel-3 {
			t.Error(text, got)
		}
	}
}

// bad are calls of functions of the world that are refused.
func bad() map[string]struct {
	n    int
	args []uint64
} {
	type call = struct {
		n    int
		args []uint64
	}
	return map[string]call{
		"one past the last function":        {6, nil},
		"far past the last function":        {1 << 40, nil},
		"the greatest number":               {1<<63 - 1, nil},
		"one below 0":                       {-1, nil},
		"the least number":                  {-1 << 63, nil},
		"an argument too many":              {stop, []uint64{0}},
		"an argument too many, of another":  {same, []uint64{0, 0}},
		"an argument too few":               {same, nil},
		"an argument too few, of two":       {swap, []uint64{1}},
		"an argument too few, of the host":  {tell, []uint64{1}},
		"an argument too many, of the host": {tell, []uint64{1, 2, 3}},
		"a first one that does not fit":     {tell, []uint64{1 << 32, 0}},
		"a last one that does not fit":      {swap, []uint64{0, 1 << 32}},
		"one that does not fit":             {same, []uint64{1<<64 - 1}},
		"arguments in another order":        {swap, []uint64{1, 1 << 40}},
	}
}

// P6.3: ErrArg, and the state that was handed in.
func TestP63ErrArg(t *testing.T) {
	m := bodyOf(">", "")
	s := begun(m)
	s.Input, s.Log = []uint64{1, 2}, []uint64{3}
	for what, c := range bad() {
		calls(t, what, m, s, c.n, c.args, outcome{state: s, why: api.ErrArg})
	}
	none := api.Module{Pages: -1, Start: -1}
	for _, n := range []int{-1, 0, 1} {
		calls(t, "no function at all", none, api.State{Fuel: 5}, n, nil, outcome{state: api.State{Fuel: 5}, why: api.ErrArg})
	}
	for _, n := range []uint64{0, 1<<32 - 1} {
		want := outcome{results: []uint64{n}, state: clone(s)}
		want.state.Fuel--
		calls(t, "one that just fits", m, s, same, []uint64{n}, want)
	}
	// It comes ahead of any trap.
	s.Fuel, s.Input = 0, nil
	for what, c := range bad() {
		calls(t, what+", without fuel and Input", m, s, c.n, c.args, outcome{state: s, why: api.ErrArg})
	}
}

// P6.3: ErrForm, and the state that was handed in, whatever the function and the arguments.
func TestP63ErrForm(t *testing.T) {
	m := bodyOf(">", "")
	refused := func(what string, m api.Module, s api.State) {
		t.Helper()
		calls(t, what, m, s, under, nil, outcome{state: s, why: api.ErrForm})
		for more, c := range bad() {
			calls(t, what+", "+more, m, s, c.n, c.args, outcome{state: s, why: api.ErrForm})
		}
	}
	for what, miss := range misses() {
		s := begun(m)
		s.Input, s.Log = []uint64{1, 2}, []uint64{3}
		miss(&s)
		refused(what, m, s)
	}
	for what, faulty := range faulty() {
		refused(what, faulty, begun(m))
		refused(what, faulty, api.State{Most: -5, Fuel: -5, Log: []uint64{1}})
	}
}

// P6.3: states that are not the module's first one.
func TestP63OtherStates(t *testing.T) {
	m := bodyOf(">i", "41:7 10:3")
	for what, turn := range fitters() {
		s := begun(m)
		turn(&s)
		want := outcome{results: []uint64{7}, state: clone(s)}
		if s.Fuel < 2 {
			want.results, want.why = nil, api.TrapFuel
		}
		want.state.Fuel = max(s.Fuel-2, 0)
		calls(t, what, m, s, under, nil, want)
	}
}
