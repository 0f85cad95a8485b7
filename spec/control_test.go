package spec_test

import (
	"strconv"
	"strings"
	"testing"

	"bellcrank/api"
)

// P6.3: blocks whose end is come to: what they take lies on the stack, what they answer stays.
func TestP63BlocksEnds(t *testing.T) {
	for _, op := range []string{"02", "03"} {
		answers(t, ">i", "41:5 "+op+" end", "", "5")
		answers(t, ">i", op+">i 41:5 end", "", "5")
		answers(t, ">i", "41:5 "+op+"i>i end", "", "5")
		answers(t, ">i", "41:5 "+op+"i>i 41:2 6b end", "", "3")
		answers(t, ">lii", "42:9 41:5 "+op+"i>ii 41:2 end", "", "9 5 2")
		answers(t, ">il", "41:5 42:6 "+op+"il>il 21:0 21:1 20:1 20:0 end", "", "5 6")
		answers(t, ">i", op+">i "+op+">i 41:5 end 41:2 6b end", "", "3")
		answers(t, ">i", "41:7 41:5 41:1 "+op+"ii> 1a 1a end", "", "7")
	}
	answers(t, ">i", "41:5 41:1 04 end", "", "5")
	answers(t, ">i", "41:5 41:0 04 01 else 01 end", "", "5")
	answers(t, ">i", "41:5 41:1 04i>i 41:2 6b else 41:3 6b end", "", "3")
	answers(t, ">i", "41:5 41:0 04i>i 41:2 6b else 41:3 6b end", "", "2")
	answers(t, ">i", "41:5 41:1 04i>i 41:2 6b end", "", "3")
	answers(t, ">i", "41:5 41:0 04i>i 41:2 6b end", "", "5")
	answers(t, ">lil", "42:9 41:5 42:6 41:0 04il>il end", "", "9 5 6")
	answers(t, ">li", "42:9 41:1 04>i 41:0 04>i 41:1 else 41:2 end else 41:3 end", "", "9 2")
}

// P6.3: a branch out of blocks leaves the label's types, and what lay beneath; what lies between is gone, and what follows is not done.
func TestP63BranchesOut(t *testing.T) {
	rest := " 00"
	for _, open := range []string{"02", "41:1 04", "41:0 04"} {
		behind := rest + " end"
		between := " "
		if open == "41:0 04" {
			between = " 00 else "
		} else if open == "41:1 04" {
			behind = rest + " else 00 end"
		}
		answers(t, ">", open+between+"0c:0"+behind, "", "")
		answers(t, ">i", "41:5 "+open+between+"41:6 42:7 0c:0"+behind, "", "5")
		answers(t, ">i", open+">i"+between+"41:6 0c:0"+behind, "", "6")
		answers(t, ">i", open+">i"+between+"41:4 42:5 41:6 0c:0"+behind, "", "6")
		answers(t, ">li", "42:3 "+open+">i"+between+"41:4 42:5 41:6 0c:0"+behind, "", "3 6")
		answers(t, ">lil", "42:3 "+open+">il"+between+"41:4 42:5 41:6 42:7 0c:0"+behind, "", "3 6 7")
		answers(t, ">lil", "42:3 "+open+">il"+between+"41:4 42:5 02>l 41:8 41:6 42:7 0c:1"+rest+" end"+behind, "", "3 6 7")
		answers(t, ">i", open+">i"+between+"42:4 42:5 41:1 03>l 41:6 0c:1"+rest+" end 00"+behind, "", "6")
		answers(t, ">ii", "41:3 "+open+">i"+between+"41:6 41:1 0d:0"+behind, "", "3 6")
		answers(t, ">ii", "41:3 "+open+">i"+between+"41:5 41:6 41:7 0e:0"+behind, "", "3 6")
	}
	// What is taken lies in the block, and is not left beneath.
	answers(t, ">li", "42:1 41:2 41:3 02ii>i 0c:0 end", "", "1 3")
	answers(t, ">li", "42:1 41:2 41:3 02ii>i 41:4 0c:0 end", "", "1 4")
	answers(t, ">l", "42:1 41:2 41:3 02ii> 0c:0 end", "", "1")
	answers(t, ">li", "42:1 41:2 41:3 41:9 04ii>i 0c:0 else 00 end", "", "1 3")
	answers(t, ">li", "42:1 41:2 41:3 41:0 04ii>i 00 else 41:8 0c:0 end", "", "1 8")
}

// P6.3: how many frames a branch leaves.
func TestP63BranchesDepths(t *testing.T) {
	const depth = 16
	for n := range depth + 1 {
		for _, open := range []string{"02>i ", "41:1 04>i ", "41:0 04>i 00 else ", "03>i "} {
			if open == "03>i " && n < depth {
				continue
			}
			behind := " 41:1 6a end"
			if open == "41:1 04>i " {
				behind = " 41:1 6a else 00 end"
			}
			text := strings.Repeat(open, depth) + "41:7 0c:" + strconv.Itoa(n) + strings.Repeat(behind, depth)
			want := 7 + depth - n - 1
			if n == depth {
				want = 7
			}
			answers(t, ">i", text+" 01", "", strconv.Itoa(want))
			answers(t, ">i", strings.Replace(text, "41:7 0c:", "41:7 41:1 0d:", 1)+" 01", "", strconv.Itoa(want))
			answers(t, ">i", strings.Replace(text, "41:7 0c:", "41:7 41:0 0e:", 1)+" 01", "", strconv.Itoa(want))
		}
	}
	// To the body itself, past what lies beneath, and with what is left over.
	answers(t, ">il", "42:1 41:2 02 41:3 41:4 42:5 0c:1 end 00", "", "4 5")
	answers(t, ">il", "42:1 41:2 42:3 0c:0 00", "", "2 3")
	answers(t, ">", "42:1 03 42:3 0c:1 end 00", "", "")
}

// P6.3: a branch to a loop begins it again with the label's types, and what lay beneath.
func TestP63Loops(t *testing.T) {
	// 5, 4, 3, 2, 1 are added up, with a heap of things left behind each time.
	answers(t, "i>i", "03 41:9 42:9 20:0 20:2 6a 21:2 20:0 41:1 6b 22:0 0d:0 1a 1a end 20:2", "5", "15")
	answers(t, "i>li", "42:8 41:0 20:0 03ii>i 22:0 6a 20:0 41:1 6b 22:0 20:0 0d:0 1a end", "5", "8 15")
	answers(t, "i>li", "42:8 41:0 20:0 03ii>i 22:0 6a 21:2 42:7 42:6 20:2 20:0 41:1 6b 20:0 41:1 6b 0d:0 1a 21:2 1a 1a 20:2 end", "5", "8 15")
	answers(t, "i>i", "20:0 03i>i 41:1 6b 22:0 20:0 41:3 4b 0d:0 end", "9", "3")
	// Out of the loop, out of all, and back to the outer one of two.
	answers(t, "i>i", "02 03 20:0 45 0d:1 20:0 41:1 6b 21:0 20:2 41:2 6a 21:2 0c:0 end end 20:2", "5", "10")
	answers(t, "i>i", "03>i 20:0 04>i 20:0 41:1 6b 21:0 20:2 41:3 6a 21:2 0c:1 else 20:2 end end", "5", "15")
	answers(t, "i>i", "03>i 02>i 20:2 41:3 6a 22:2 20:0 45 0d:2 1a 20:0 41:1 6b 21:0 0c:1 end end", "5", "18")
	answers(t, "i>i", "03 20:0 41:1 6b 21:0 03 20:2 41:1 6a 22:2 41:3 70 0d:0 20:0 0d:1 end end 20:2", "5", "15")
	// A loop's branch leaves its In, not its Out.
	answers(t, "i>ll", "42:4 20:0 03i>l 22:0 41:1 6b 22:0 20:0 0d:0 1a 42:6 end", "4", "4 6")
	answers(t, "i>l", "42:3 03l>l 42:2 7e 20:0 41:1 6b 22:0 0d:0 end", "5", "96")
	// Locals and the memory stay from one time to the next.
	leaves(t, "i>", "03 20:0 20:0 3a:0 20:0 41:1 6b 22:0 0d:0 end", "3", nil, "", api.OK, func(s *api.State) {
		s.Fuel -= 4
		copy(s.Mem, []byte{0, 1, 2, 3})
	})
}

// P6.3: 0d goes on where its I32 is 0, with what it would have taken along.
func TestP63BranchIf(t *testing.T) {
	for _, n := range []string{"1", "2", "65536", "2147483648", "4294967295"} {
		answers(t, "i>i", "02>i 41:5 41:6 20:0 0d:0 1a 1a 41:7 end", n, "6")
		answers(t, "i>i", "41:6 20:0 0d:0 1a 41:7", n, "6")
	}
	answers(t, "i>i", "02>i 41:5 41:6 20:0 0d:0 6b end", "0", "4294967295")
	answers(t, "i>i", "41:6 20:0 0d:0 1a 41:7", "0", "7")
	answers(t, "i>il", "02>il 41:5 42:6 20:0 0d:0 1a 1a 41:3 42:4 end", "0", "3 4")
}

// P6.3: 0e goes to the target of its number, or to the last one.
func TestP63Table(t *testing.T) {
	text := "02 02 02 02 20:0 0e:1,0,3,2 end 41:10 0f end 41:11 0f end 41:12 0f end 41:13"
	for n, answer := range map[string]string{"0": "11", "1": "10", "2": "13", "3": "12", "4": "12", "5": "12", "256": "12", "2147483648": "12", "4294967295": "12"} {
		answers(t, "i>i", text, n, answer)
	}
	for _, n := range []string{"0", "1", "2", "4294967295"} {
		answers(t, "i>i", "02 02 20:0 0e:1 end 00 end 41:4", n, "4")
		answers(t, "i>li", "42:1 02>i 02>i 41:7 41:8 20:0 0e:1,0,1 end 41:1 6a end", n, map[string]string{"0": "1 8", "1": "1 9", "2": "1 8", "4294967295": "1 8"}[n])
	}
	targets := strings.Repeat("0,", 64) + "1"
	for n, answer := range map[string]string{"0": "1", "63": "1", "64": "2", "65": "2", "66": "2"} {
		answers(t, "i>i", "02 02 20:0 0e:"+targets+" end 41:1 0f end 41:2", n, answer)
	}
	// To loops, and to the body.
	answers(t, "i>i", "41:0 21:2 02 03 20:2 41:1 6a 21:2 20:0 41:1 6b 22:0 0e:1,0,0,0,1 end end 20:2", "3", "3")
	answers(t, "i>ii", "41:3 41:4 41:5 20:0 0e:0,0", "7", "4 5")
}

// P6.3: 0f, and the end: the function's results, and nothing of what else lies there.
func TestP63Return(t *testing.T) {
	answers(t, ">", "0f 00", "", "")
	answers(t, ">", "41:1 42:2 0f 00", "", "")
	answers(t, ">i", "41:1 42:2 41:3 0f 00", "", "3")
	answers(t, ">il", "42:1 42:2 41:3 42:4 0f 00", "", "3 4")
	answers(t, ">l", "41:1 02 42:2 02>i 41:3 03 41:4 41:1 04 42:5 0f else 00 end 00 end 00 end 00 end 00", "", "5")
	answers(t, ">i", "41:1 41:0 04 00 else 41:2 41:3 0f end 00", "", "3")
	deep := strings.Repeat("02 ", 8) + strings.Repeat("03 ", 8)
	answers(t, ">i", "41:1 "+deep+"41:4 41:5 0f"+strings.Repeat(" end 00", 16), "", "5")
	// Of a called function it ends that one alone.
	answers(t, "i>i", "20:0 04 41:5 0f end 41:1 10:4 41:2 6a", "0", "7")
	answers(t, "i>i", "20:0 04>i 03>i 41:9 41:5 0f end else 02>i 41:8 41:1 10:4 6a end end", "0", "13")
}

// P6.3: 00, at whatever depth, and not where nothing comes to it.
func TestP63Unreachable(t *testing.T) {
	traps(t, api.TrapEnd, ">", "00", "")
	traps(t, api.TrapEnd, ">i", "00", "")
	traps(t, api.TrapEnd, ">i", "41:1 02 03 41:1 04 00 end end end", "")
	traps(t, api.TrapEnd, ">i", "41:5 00", "")
	traps(t, api.TrapEnd, "i>i", "20:0 04 00 end 41:1 10:4", "0")
	traps(t, api.TrapEnd, "i>i", "41:5 41:6 20:0 1b 00", "0")
	answers(t, "i>i", "20:0 04 00 end 41:1", "0", "1")
}

// P6.3: where a tick is taken: at a call, at each beginning of a loop, and at each branch to it.
func TestP63Ticks(t *testing.T) {
	ticks(t, ">", "", "", 1)
	ticks(t, ">", "02 02 end end 41:1 04 else end 41:0 04 end", "", 1)
	ticks(t, ">", "02 0c:0 end 02 41:1 0d:0 end 02 02 41:0 0e:1,0 end end 0f", "", 1)
	ticks(t, ">i", "41:1 41:0 36:0 41:0 28:0 40 41:5 6a 23:0 24:0 41:4 41:1 1b", "", 1)
	ticks(t, ">", "03 end", "", 2)
	ticks(t, ">", "03 end 03 end 03 end", "", 4)
	ticks(t, ">", "03 03 03 end end end", "", 4)
	ticks(t, ">", "02 03 0c:1 end end", "", 2)
	ticks(t, ">", "03 0f end", "", 2)
	ticks(t, ">", "41:0 04 03 end else 03 03 end end end", "", 3)
	for _, n := range []int{1, 2, 3, 10} {
		arg := strconv.Itoa(n)
		ticks(t, "i>", "03 20:0 41:1 6b 22:0 0d:0 end", arg, 1+n)
		ticks(t, "i>", "03 20:0 41:1 6b 22:0 04 0c:1 end end", arg, 1+n)
		ticks(t, "i>", "02 03 20:0 41:1 6b 22:0 0e:1,0 end end", arg, 1+n)
		ticks(t, "i>", "20:0 03i> 41:1 6b 22:0 20:0 0d:0 1a end", arg, 1+n)
		ticks(t, "i>", "03 03 20:0 41:1 6b 22:0 0d:1 end end", arg, 1+2*n)
		ticks(t, "i>", "03 03 20:0 41:1 6b 22:0 0d:0 end end", arg, 2+n)
		ticks(t, "i>", "03 41:0 10:3 1a 20:0 41:1 6b 22:0 0d:0 end", arg, 1+2*n)
		ticks(t, "i>", "20:0 04 20:0 41:1 6b 10:4 end", arg, 1+n)
	}
	ticks(t, ">i", "41:1 10:3", "", 2)
	ticks(t, ">il", "42:1 41:2 10:5", "", 2)
	ticks(t, ">", "10:1 10:1 10:1", "", 1)
	ticks(t, ">i", "41:1 10:3 10:3 10:3 10:3", "", 5)
}

// P6.3: a run that no fuel is left for ends with what it did so far.
func TestP63Fuel(t *testing.T) {
	m := bodyOf(">", "03 23:0 41:1 6a 24:0 0c:0 end")
	for _, have := range []int{0, 1, 2, 3, 10, 1024} {
		s := begun(m)
		s.Fuel, s.Globals[0] = have, 0
		want := outcome{state: clone(s), why: api.TrapFuel}
		want.state.Fuel, want.state.Globals[0] = 0, uint64(max(have-1, 0))
		calls(t, "a loop that never ends", m, s, under, nil, want)
	}
	m = bodyOf(">", "03 23:0 41:1 6a 24:0 10:1 41:3 10:3 1a 0c:0 end")
	for _, have := range []int{2, 3, 4, 5} {
		s := begun(m)
		s.Fuel, s.Globals[0] = have, 0
		want := outcome{state: clone(s), why: api.TrapFuel}
		want.state.Fuel, want.state.Globals[0] = 0, uint64(have/2)
		want.state.Log = []uint64{1, 1}[:have/2]
		calls(t, "a loop that never ends, with calls", m, s, under, nil, want)
	}
	// Behind the loop's branch, the trap is the fuel's, not what would follow.
	s := begun(m)
	s.Fuel = 2
	calls(t, "a loop that would trap", bodyOf("i>", "03 20:0 45 04 00 end 41:0 21:0 0c:0 end"), s, under, []uint64{1}, outcome{state: spent(s), why: api.TrapFuel})
	s.Fuel = 3
	calls(t, "a loop that traps", bodyOf("i>", "03 20:0 45 04 00 end 41:0 21:0 0c:0 end"), s, under, []uint64{1}, outcome{state: spent(s), why: api.TrapEnd})
}

// spent is a state without its fuel.
func spent(s api.State) api.State {
	s = clone(s)
	s.Fuel = 0
	return s
}
