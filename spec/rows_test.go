package spec_test

import (
	"strconv"
	"strings"
	"testing"

	"bellcrank/api"
	"bellcrank/mem"
	"bellcrank/num"
	"bellcrank/spec"
)

// letters are types as a text.
func letters(l []int) string {
	text := ""
	for _, t := range l {
		text += map[int]string{0x7f: "i", 0x7e: "l"}[t]
	}
	return text
}

func hex2(op int) string {
	text := strconv.FormatInt(int64(op), 16)
	return strings.Repeat("0", 2-len(text)) + text
}

// some are numbers of a type at which operators have their edges.
func some(t int) []uint64 {
	if t == 0x7f {
		return []uint64{0, 1, 2, 7, 31, 32, 33, 0x80, 0xff, 0x8000, 0x12345678, 1<<31 - 1, 1 << 31, 1<<32 - 2, 1<<32 - 1}
	}
	return []uint64{0, 1, 2, 7, 63, 64, 65, 0x80, 0x8000, 1 << 31, 1<<32 - 1, 1 << 32, 0x123456789abcdef0, 1<<63 - 1, 1 << 63, 1<<64 - 2, 1<<64 - 1}
}

// P6.3: layer 2's operators: what is taken stands in the order in which it was put there, and what Eval says comes.
func TestP63Numbers(t *testing.T) {
	ops := num.Ops()
	if len(ops) != 66 {
		t.Fatal("there are", len(ops), "operators of numbers")
	}
	for _, op := range ops {
		in, out, _ := num.Sig(op)
		m := bodyOf(letters(in)+">"+letters([]int{out}), "20:0 20:1 "[:5*len(in)]+hex2(op))
		s := begun(m)
		for _, a := range some(in[0]) {
			for _, b := range some(in[0]) {
				args := []uint64{a, b}[:len(in)]
				n, why := num.Eval(op, args...)
				want := outcome{results: []uint64{n}, state: clone(s), why: why}
				if why != api.OK {
					want.results = nil
				}
				want.state.Fuel--
				calls(t, hex2(op), m, s, under, args, want)
			}
		}
	}
}

// P6.3: numbers, told by hand, where the order of the two turns the answer, or the type its width.
func TestP63NumbersByHand(t *testing.T) {
	answers(t, ">i", "41:1 41:2 6a", "", "3")
	answers(t, ">i", "41:1 41:2 6b", "", "4294967295")
	answers(t, ">l", "42:1 42:2 7d", "", "18446744073709551615")
	answers(t, ">i", "41:-7 41:2 6d", "", "4294967293")
	answers(t, ">i", "41:-7 41:2 6e", "", "2147483644")
	answers(t, ">i", "41:-7 41:2 6f", "", "4294967295")
	answers(t, ">i", "41:1 41:2 48", "", "1")
	answers(t, ">i", "41:1 41:-2 48", "", "0")
	answers(t, ">i", "41:1 41:-2 49", "", "1")
	answers(t, ">i", "42:1 42:-2 54", "", "1")
	answers(t, ">i", "41:1 41:33 74", "", "2")
	answers(t, ">l", "42:1 42:33 86", "", "8589934592")
	answers(t, ">i", "42:4294967297 a7", "", "1")
	answers(t, ">l", "41:-1 ac", "", "18446744073709551615")
	answers(t, ">l", "41:-1 ad", "", "4294967295")
	answers(t, ">i", "41:200 c0", "", "4294967240")
	answers(t, ">l", "42:200 c2", "", "18446744073709551560")
	answers(t, ">i", "42:0 50", "", "1")
	answers(t, ">i", "41:-2147483648 41:-1 6f", "", "0")
	// What lies beneath stays.
	answers(t, ">ili", "41:5 42:6 41:1 41:2 6b", "", "5 6 4294967295")
	answers(t, ">ili", "41:5 42:6 41:1 45", "", "5 6 0")
}

// P6.3: the traps of layer 2 leave the state as it is then.
func TestP63NumbersTraps(t *testing.T) {
	for _, op := range []string{"6d", "6e", "6f", "70"} {
		traps(t, api.TrapZero, ">i", "41:1 41:0 "+op, "")
		traps(t, api.TrapZero, ">i", "41:-2147483648 41:0 "+op, "")
	}
	for _, op := range []string{"7f", "80", "81", "82"} {
		traps(t, api.TrapZero, ">l", "42:1 42:0 "+op, "")
	}
	traps(t, api.TrapOver, ">i", "41:-2147483648 41:-1 6d", "")
	traps(t, api.TrapOver, ">l", "42:-9223372036854775808 42:-1 7f", "")
	for _, c := range []struct {
		text string
		why  api.Errno
	}{
		{"41:1 41:0 6d 1a", api.TrapZero}, {"42:1 42:0 82 1a", api.TrapZero}, {"42:-9223372036854775808 42:-1 7f 1a", api.TrapOver},
		{"41:253 28:0 1a", api.TrapMem}, {"41:0 42:0 37:249", api.TrapMem}, {"00", api.TrapEnd},
	} {
		text := "41:1 24:0 41:3 41:77 3a:0 10:1 " + c.text + " 41:2 24:0 41:4 41:78 3a:0 10:1"
		leaves(t, ">", text, "", nil, "", c.why, func(s *api.State) {
			s.Globals[0], s.Mem[3], s.Log, s.Fuel = 1, 77, []uint64{1}, fuel-1
		})
	}
}

// accesses are layer 3's operators that read, and those that write.
func accesses() (reads, writes []int) {
	for op := range 256 {
		_, _, store, ok := mem.Access(op)
		switch {
		case ok && store:
			writes = append(writes, op)
		case ok:
			reads = append(reads, op)
		}
	}
	return reads, writes
}

// places are addresses and offsets, within the world's memory and past it.
var places = []struct{ addr, off uint64 }{
	{0, 0}, {100, 0}, {0, 100}, {50, 51}, {99, 0}, {103, 0}, {248, 0}, {0, 248}, {249, 0}, {251, 1}, {252, 0}, {1, 252}, {253, 0}, {254, 0}, {0, 254}, {255, 0}, {0, 255}, {254, 1},
	{256, 0}, {0, 256}, {200, 56}, {1 << 31, 0}, {0, 1 << 31}, {1<<32 - 1, 0}, {1<<32 - 1, 1}, {1, 1<<32 - 1}, {1<<32 - 1, 1<<32 - 1}, {1<<32 - 200, 200}, {1<<32 - 256, 256 + 100},
}

// P6.3: what reads: the address is taken, the offset is the operator's N.
func TestP63Loads(t *testing.T) {
	reads, writes := accesses()
	if len(reads) != 12 || len(writes) != 7 {
		t.Fatal("the accesses are", reads, writes)
	}
	for _, op := range reads {
		kind, _, _, _ := mem.Access(op)
		for _, p := range places {
			m := bodyOf("i>i"+letters([]int{kind}), "41:5 20:0 "+hex2(op)+":"+strconv.FormatUint(p.off, 10))
			s := begun(m)
			n, why := mem.Load(s.Mem, op, p.addr, p.off)
			want := outcome{results: []uint64{5, n}, state: clone(s), why: why}
			if why != api.OK {
				want.results = nil
			}
			want.state.Fuel--
			calls(t, hex2(op), m, s, under, []uint64{p.addr}, want)
		}
	}
	answers(t, ">i", "41:100 28:0", "", "3419064776")
	answers(t, ">i", "41:98 28:3", "", "3435907785")
	answers(t, ">l", "41:100 29:0", "", "14974132090529565128")
	answers(t, ">i", "41:100 2c:0", "", "4294967240")
	answers(t, ">i", "41:100 2d:0", "", "200")
	answers(t, ">l", "41:1 30:100", "", "18446744073709551561")
	answers(t, ">l", "41:1 35:99", "", "3419064776")
}

// P6.3: what writes: the number on top, the address beneath it.
func TestP63Stores(t *testing.T) {
	_, writes := accesses()
	for _, op := range writes {
		kind, _, _, _ := mem.Access(op)
		for _, p := range places {
			for _, n := range some(kind) {
				m := bodyOf("i"+letters([]int{kind})+">i", "41:5 20:0 20:1 "+hex2(op)+":"+strconv.FormatUint(p.off, 10))
				s := begun(m)
				written, why := mem.Store(s.Mem, op, p.addr, p.off, n)
				want := outcome{results: []uint64{5}, state: clone(s), why: why}
				want.state.Fuel--
				if why != api.OK {
					want.results = nil
				} else {
					want.state.Mem = written
				}
				calls(t, hex2(op), m, s, under, []uint64{p.addr, n}, want)
			}
		}
	}
	leaves(t, ">", "41:7 41:16909060 36:2", "", nil, "", api.OK, func(s *api.State) {
		s.Fuel--
		copy(s.Mem[9:], []byte{4, 3, 2, 1})
	})
	leaves(t, ">", "41:7 42:-2 3d:2", "", nil, "", api.OK, func(s *api.State) {
		s.Fuel--
		copy(s.Mem[9:], []byte{254, 255})
	})
	leaves(t, ">i", "41:7 41:200 3a:0 41:6 2e:0", "", nil, "4294952960", api.OK, func(s *api.State) {
		s.Fuel--
		s.Mem[7] = 200
	})
}

// P6.3: 3f and 40.
func TestP63Pages(t *testing.T) {
	answers(t, ">i", "3f", "", "1")
	answers(t, ">i", "41:0 40", "", "1")
	answers(t, ">i", "41:3 40", "", "4294967295")
	answers(t, ">ii", "41:16 40 41:-1 40", "", "4294967295 4294967295")
	answers(t, ">il", "42:5 21:0 41:-2147483648 40 20:0", "", "4294967295 5")
	grown := func(pages int) func(s *api.State) {
		return func(s *api.State) {
			s.Fuel--
			s.Mem = append(s.Mem, make([]byte, 256*pages)...)
		}
	}
	leaves(t, ">i", "41:1 40", "", nil, "1", api.OK, grown(1))
	leaves(t, ">i", "41:2 40", "", nil, "1", api.OK, grown(2))
	leaves(t, ">iiiii", "41:1 40 3f 41:1 40 3f 41:1 40", "", nil, "1 2 2 3 4294967295", api.OK, grown(2))
	leaves(t, ">ii", "41:2 40 41:764 28:0", "", nil, "1 0", api.OK, grown(2))
	leaves(t, ">ii", "41:1 40 41:508 28:1", "", nil, "", api.TrapMem, grown(1))
	leaves(t, ">i", "41:2 40 41:511 41:9 3a:0", "", nil, "1", api.OK, func(s *api.State) {
		grown(2)(s)
		s.Mem[511] = 9
	})
	// How many it may have is the state's, not the module's.
	most := func(n int) func(s *api.State) { return func(s *api.State) { s.Most = n } }
	for n, answer := range map[int]string{256: "4294967295", 511: "4294967295", 512: "1", 513: "1", 4096: "1"} {
		leaves(t, ">i", "41:1 40", "", most(n), answer, api.OK, func(s *api.State) {
			s.Fuel--
			if answer == "1" {
				s.Mem = append(s.Mem, make([]byte, 256)...)
			}
		})
	}
	leaves(t, ">i", "41:15 40", "", most(4096), "1", api.OK, grown(15))
	leaves(t, ">i", "41:16 40", "", most(4096), "4294967295", api.OK, grown(0))
	// A memory without pages may grow, too.
	none := func(s *api.State) { s.Mem = nil }
	leaves(t, ">iii", "3f 41:1 40 3f", "", none, "0 0 1", api.OK, grown(1))
	leaves(t, ">i", "41:0 2d:0", "", none, "", api.TrapMem, grown(0))
}

// P6.3: locals are the arguments, and 0 behind them, of each call anew.
func TestP63Locals(t *testing.T) {
	answers(t, "il>ilil", "20:0 20:1 20:3 20:2", "7 8", "7 8 0 0")
	answers(t, "iiiillll>illi", "20:0 20:7 20:8 20:9", "1 2 3 4 5 6 7 8", "1 8 0 0")
	answers(t, "i>il", "42:9 21:1 41:5 21:0 20:0 20:1", "7", "5 9")
	answers(t, "i>iii", "41:5 22:0 20:0 41:6 21:0 20:0", "7", "5 5 6")
	answers(t, ">iii", "41:1 41:2 22:1 20:1", "", "1 2 2")
	answers(t, "l>ll", "20:0 42:1 21:0 20:0", "-1", "-1 1")
	answers(t, "i>ilil", "20:0 04>il 42:3 21:1 41:4 21:2 41:0 10:4 1a 1a else 20:2 20:1 end 20:2 20:1", "1", "0 0 4 3")
	answers(t, ">ili", "41:6 21:1 42:3 21:0 41:1 10:3 20:0 20:1", "", "1 3 6")
}

// P6.3: globals are the state's.
func TestP63Globals(t *testing.T) {
	answers(t, ">illi", "23:0 23:1 23:3 23:2", "", "11 12 14 13")
	leaves(t, ">ii", "23:0 41:5 24:0 42:-1 24:1 23:0", "", nil, "11 5", api.OK, func(s *api.State) {
		s.Fuel--
		s.Globals[0], s.Globals[1] = 5, 1<<64-1
	})
	leaves(t, ">iili", "23:0 10:3 23:2 23:1 41:1", "", func(s *api.State) {
		s.Globals = []uint64{1, 2, 3, 4}
	}, "1 3 2 1", api.OK, func(s *api.State) { s.Fuel -= 2 })
}

// P6.3: numbers, nothing, what is dropped, and the choice of one of two.
func TestP63Others(t *testing.T) {
	answers(t, ">", "", "", "")
	answers(t, ">", "01", "", "")
	answers(t, ">i", "41:-1", "", "4294967295")
	answers(t, ">l", "42:-1", "", "18446744073709551615")
	answers(t, ">il", "01 41:2147483648 01 42:9223372036854775808 01", "", "2147483648 9223372036854775808")
	answers(t, ">i", "41:1 41:2 1a", "", "1")
	answers(t, ">i", "41:1 42:2 1a 42:3 1a", "", "1")
	for _, n := range []string{"1", "2", "256", "2147483648", "4294967295"} {
		answers(t, "i>i", "41:8 41:9 20:0 1b", n, "8")
		answers(t, "i>il", "41:7 42:8 42:9 20:0 1b", n, "7 8")
		answers(t, "i>i", "20:0 04>i 41:1 else 41:2 end", n, "1")
	}
	answers(t, "i>i", "41:8 41:9 20:0 1b", "0", "9")
	answers(t, "i>il", "41:7 42:8 42:9 20:0 1b", "0", "7 9")
	answers(t, "i>i", "20:0 04>i 41:1 else 41:2 end", "0", "2")
	answers(t, ">i", "41:0 41:1 41:0 1b", "", "1")
	answers(t, ">i", "41:1 41:0 41:1 1b", "", "1")
	if s, why := spec.Begin(world()); why != api.OK || s.Fuel != 0 {
		t.Error("the world", s, why)
	}
}
