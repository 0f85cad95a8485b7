package typing_test

import (
	"slices"
	"strings"
	"testing"

	"bellcrank/api"
	"bellcrank/typing"
)

// bodies are texts of bodies that may be, and of ones that may not, with their types.
func bodies() [][2]string {
	l := [][2]string{
		{">", ""}, {">i", "41 41 6a"}, {">i", "41 42 6a"}, {">i", ""}, {">", "41"}, {"il>l", "20:0 ac 20:1 7c"}, {">", "02 6a end"},
		{">i", "02>i 41 0c:0 end"}, {">i", "02>i 42 0c:0 end"}, {">", "03 41 0d:0 end"}, {">", "03 0d:0 end"}, {">", "02 41 end"},
		{">i", "41 04>i 41 else 42 45 end"}, {">i", "41 04>i 41 else 42 end"}, {">i", "41 04>i 41 end"}, {">i", "41 04>i 41 else end 1a"},
		{">", "00 6a 1a"}, {">", "00 6a"}, {">l", "42 0f 6a 1a"}, {">l", "42 41 0f"}, {">", "41 0e:0,0"}, {">", "41 0e:1,0"}, {">", "20:9"}, {">", "41 24:2"},
		{">", "02 03 02 41 0e:2,1,0 end 00 end end 01"}, {">i", "02>i 03 02>i 41 0c:2 end 0c:1 end 00 end"}, {">i", "02>i 03 02>i 42 0c:2 end 0c:1 end 00 end"},
		{">", "41 04 02 end else 41 04 else 02 03 end end end end"}, {">", "41 04 02 end else 41 04 else 02 03 1a end end end end"},
		{">i", "00 1b"}, {">i", "00 42 41 1b"}, {">i", strings.Repeat("01 ", 40) + "42"},
	}
	for seed := range 40 {
		d := dice(seed)
		typ, text := d.text()
		l = append(l, [2]string{typ, text}, [2]string{typ + "i", text})
	}
	return l
}

// nopped calls f with operators that have one more at each place, and with its number.
func nopped(l []api.Instr, no int, f func(no int, l []api.Instr)) {
	for i := range len(l) + 1 {
		f(no, slices.Insert(slices.Clone(l), i, api.Instr{Op: 1}))
		if i == len(l) {
			return
		}
		within := slices.Clone(l)
		nopped(l[i].Body, no+1, func(no int, body []api.Instr) {
			within[i].Body = body
			f(no, within)
		})
		within[i].Body = l[i].Body
		ahead := no + 1 + len(inRow(l[i].Body)) - ends(l[i].Body)
		if l[i].HasElse {
			nopped(l[i].Else, ahead, func(no int, body []api.Instr) {
				within[i].Else = body
				f(no, within)
			})
		}
		no = ahead + len(inRow(l[i].Else)) - ends(l[i].Else)
	}
}

// ends are how many ends, and elses, stand among operators.
func ends(l []api.Instr) int {
	count := 0
	for _, s := range inRow(l) {
		if s.end != "" {
			count++
		}
	}
	return count
}

// P5.4: a nop may stand anywhere: a fault's number moves, if its operator is not ahead of it, and nothing else.
func TestP54Nop(t *testing.T) {
	inserted := 0
	for _, b := range bodies() {
		m := bodyOf(b[0], b[1])
		plain := typing.Check(m)
		body := m.Funcs[under].Body
		nopped(body, 0, func(no int, l []api.Instr) {
			if !blocksOnly(l) {
				return
			}
			want := plain
			if plain.Why != api.OK && plain.Op >= no {
				want.Op++
			}
			m.Funcs[under].Body = l
			checks(t, b[0]+": "+b[1]+", with a nop", m, want)
			inserted++
		})
	}
	if inserted < 500 {
		t.Error("only", inserted, "places")
	}
}

// blocksOnly tells whether nothing stands in an operator that is no block.
func blocksOnly(l []api.Instr) bool {
	for _, in := range l {
		if len(in.Body) > 0 && (in.Op < 2 || in.Op > 4) || !blocksOnly(in.Body) || !blocksOnly(in.Else) {
			return false
		}
	}
	return true
}

// P5.4: unreachable put ahead of a body that may be.
func TestP54Unreachable(t *testing.T) {
	good := 0
	for _, b := range bodies() {
		if typing.Check(bodyOf(b[0], b[1])) != (api.Fault{}) {
			continue
		}
		good++
		bodyPasses(t, b[0], "00 "+b[1])
		bodyPasses(t, b[0], "00 00 "+b[1])
		bodyPasses(t, b[0], "02 00 end 00 "+b[1])
	}
	if good < 50 {
		t.Error("only", good, "bodies that may be")
	}
	for _, m := range someModules(300) {
		for i := range m.Funcs {
			m.Funcs[i].Body = slices.Insert(m.Funcs[i].Body, 0, api.Instr{})
			passes(t, "a module that may be, with unreachable ahead", m)
		}
	}
}

// P5.3: Exports turn nothing of the bodies' faults.
func TestP53Exports(t *testing.T) {
	lists := [][]api.Export{nil, {{Name: "a", N: 3}}, {{Name: "", Kind: 3, N: 3}, {Name: "a", Kind: 2}}, {{Name: "x"}, {Name: "y"}, {Name: "z", N: 4}, {Name: "w", N: 3}, {Name: "v", Kind: 3}}}
	for _, b := range bodies() {
		m := bodyOf(b[0], b[1])
		want := typing.Check(m)
		for _, l := range lists {
			m.Exports = l
			checks(t, b[0]+": "+b[1]+", with other Exports", m, want)
		}
	}
}

// onlyBodies is a module with just these bodies, of which the others are no more than unreachable.
func onlyBodies(m api.Module, bodies ...int) api.Module {
	m.Funcs = slices.Clone(m.Funcs)
	for i := range m.Funcs {
		if !slices.Contains(bodies, i) {
			m.Funcs[i].Body = ops("00")
		}
	}
	return m
}

// P5.3: a body's fault hangs on no other body: the first one that has a fault is told, with just the fault that it has where the other bodies have nothing.
func TestP53OtherBodies(t *testing.T) {
	all := bodies()
	for i := range all {
		m := world()
		for at := range m.Funcs {
			b := all[(i*(at+1)+7*at)%len(all)]
			put(&m, at, b[0], "li", b[1])
		}
		want := api.Fault{}
		for at := range m.Funcs {
			alone := typing.Check(onlyBodies(m, at))
			if alone.Why != api.OK && alone.At != at {
				t.Error("a fault of the body", at, "is told of", alone.At)
			}
			for beside := range m.Funcs {
				expected := alone
				if other := typing.Check(onlyBodies(m, beside)); other.Why != api.OK && (alone.Why == api.OK || beside < at) {
					expected = other
				}
				checks(t, "two bodies", onlyBodies(m, at, beside), expected)
			}
			if want.Why == api.OK {
				want = alone
			}
		}
		checks(t, "three bodies", m, want)
	}
}
