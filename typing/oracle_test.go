package typing_test

import (
	"slices"
	"strings"

	"bellcrank/api"
	"bellcrank/wasm"
)

// letters are types as a text, of which any is a question mark.
func letters(l []int) string {
	var b strings.Builder
	for _, t := range l {
		b.WriteByte(map[int]byte{0x7f: 'i', 0x7e: 'l'}[t])
	}
	return b.String()
}

// judge says what Check must, as the document's words do, once more and in another way: operators stand in a row with the ends, each frame has a stack of its own, which is a text, and the first fault is kept while the look goes on with what would have been there. Unclear is set where two of the document's words could be meant.
type judge struct {
	m       api.Module
	table   map[int]string
	found   []api.Fault
	at      int
	now     int
	locals  string
	frames  []held
	unclear bool
}

// held is a frame: its operator (-1 of the body), the operator's number, what it takes and answers, what lies on it.
type held struct {
	in    api.Instr
	no    int
	takes string
	gives string
	stack string
	dead  bool
}

// first answers what Check must, and whether the document is clear on it.
func first(m api.Module) (api.Fault, bool) {
	if !wasm.Few(m) {
		return api.Fault{Why: api.ErrMany, At: -1}, true
	}
	if _, why := wasm.Encode(m); why != 0 {
		return api.Fault{Why: api.ErrForm, At: -1}, true
	}
	j := judge{m: m, at: -1, table: rowsOf(numberRows + " " + accessRows + " " + memoryRows + " " + otherRows)}
	j.whole()
	for i := range m.Funcs {
		if len(j.found) > 0 {
			break
		}
		j.body(i)
	}
	if len(j.found) > 0 {
		return j.found[0], !j.unclear
	}
	return api.Fault{}, true
}

func (j *judge) must(holds bool, why api.Errno) bool {
	if !holds {
		j.found = append(j.found, api.Fault{Why: why, At: j.at, Op: j.now})
	}
	return holds
}

// all are the functions' types, by their numbers.
func (j *judge) all() []int {
	var l []int
	for _, i := range j.m.Imports {
		l = append(l, i.Type)
	}
	for _, f := range j.m.Funcs {
		l = append(l, f.Type)
	}
	return l
}

// whole looks at the points 1 to 4.
func (j *judge) whole() {
	m := j.m
	all := j.all()
	for i, n := range all {
		if j.must(n < len(m.Types), api.ErrIndex) && i >= len(m.Imports) {
			j.must(len(m.Types[n].In)+len(m.Funcs[i-len(m.Imports)].Locals) <= 32, api.ErrMany)
		}
	}
	names := map[string]int{}
	for _, e := range m.Exports {
		memories := 1
		if m.Pages == -1 {
			memories = 0
		}
		count := map[int]int{0: len(all), 2: memories, 3: len(m.Globals)}
		j.must(e.N < count[e.Kind], api.ErrIndex)
		names[e.Name]++
		j.must(names[e.Name] == 1, api.ErrThere)
	}
	if m.Start >= 0 && j.must(m.Start < len(all), api.ErrIndex) && all[m.Start] < len(m.Types) {
		s := m.Types[all[m.Start]]
		j.must(letters(s.In)+letters(s.Out) == "", api.ErrType)
	}
	for _, d := range m.Datas {
		j.must(m.Pages != -1, api.ErrIndex)
		j.must(d.At <= m.Pages*256-len(d.Bytes), api.TrapMem)
	}
}

// step is an operator, or an end of one: else, or end.
type step struct {
	in  api.Instr
	end string
}

// row lays operators in a row.
func inRow(l []api.Instr) (out []step) {
	for _, in := range l {
		out = append(out, step{in: in})
		if within(in.Op, 2, 3, 4) {
			out = append(out, inRow(in.Body)...)
			if in.HasElse {
				out = append(append(out, step{end: "else"}), inRow(in.Else)...)
			}
			out = append(out, step{end: "end"})
		}
	}
	return out
}

func within(n int, l ...int) bool { return slices.Contains(l, n) }

func (j *judge) body(n int) {
	f := j.m.Funcs[n]
	t := j.m.Types[f.Type]
	j.at, j.locals = n, letters(t.In)+letters(f.Locals)
	j.frames = []held{{in: api.Instr{Op: -1}, gives: letters(t.Out)}}
	next := 0
	for _, s := range inRow(f.Body) {
		j.now = next
		switch s.end {
		case "":
			next++
			j.operator(s.in)
		case "else":
			f := j.end()
			j.frames = append(j.frames, held{in: f.in, no: f.no, takes: f.takes, gives: f.gives, stack: f.takes})
		case "end":
			f := j.end()
			if f.in.Op == 4 && !f.in.HasElse {
				j.must(f.takes == f.gives, api.ErrType)
			}
			j.top().stack += f.gives
		}
		if len(j.found) > 0 {
			j.doubt()
			return
		}
	}
	j.now = next
	j.end()
}

// doubt tells whether an if without an Else that answers other types than it takes was open, or ends here, ahead of which its own fault could be meant.
func (j *judge) doubt() {
	for _, f := range j.frames {
		j.unclear = j.unclear || f.in.Op == 4 && !f.in.HasElse && f.takes != f.gives
	}
}

func (j *judge) top() *held { return &j.frames[len(j.frames)-1] }

// end takes the innermost frame away. Its faults are told at its operator, the body's where the look is.
func (j *judge) end() held {
	f := *j.top()
	if f.in.Op != -1 {
		j.now = f.no
	}
	left, _ := j.pops(f.stack, f.gives)
	j.must(left == "", api.ErrType)
	j.frames = j.frames[:len(j.frames)-1]
	return f
}

// pops takes types off a stack, the last one first, and answers what is left, and what was taken.
func (j *judge) pops(stack, want string) (left, taken string) {
	for i := len(want) - 1; i >= 0; i-- {
		have := want[i]
		if stack == "" {
			j.must(j.top().dead, api.ErrType)
		} else {
			have = stack[len(stack)-1]
			stack = stack[:len(stack)-1]
		}
		if have == '?' {
			have = want[i]
		}
		j.must(have == want[i] || want[i] == '?', api.ErrType)
		taken = string(have) + taken
	}
	return stack, taken
}

// does takes types and answers others.
func (j *judge) does(takes, gives string) (taken string) {
	f := j.top()
	f.stack, taken = j.pops(f.stack, takes)
	f.stack += gives
	return taken
}

func (j *judge) dies() {
	j.top().dead, j.top().stack = true, ""
}

// label answers the label of the n-th frame, and whether there is one.
func (j *judge) label(n uint64) (string, bool) {
	if !j.must(n < uint64(len(j.frames)), api.ErrIndex) {
		return "", false
	}
	f := j.frames[uint64(len(j.frames))-1-n]
	if f.in.Op == 3 {
		return f.takes, true
	}
	return f.gives, true
}

func (j *judge) operator(in api.Instr) {
	switch {
	case in.Op == 0:
		j.dies()
	case within(in.Op, 2, 3, 4):
		s := held{in: in, no: j.now, takes: letters(in.Type.In), gives: letters(in.Type.Out), stack: letters(in.Type.In)}
		if in.Op == 4 {
			j.does("i", "")
		}
		j.does(s.takes, "")
		if len(j.found) == 0 {
			j.frames = append(j.frames, s)
		}
	case within(in.Op, 0x0c, 0x0d):
		if label, ok := j.label(in.N); ok && in.Op == 0x0c {
			j.does(label, "")
			j.dies()
		} else if ok {
			j.does(label+"i", label)
		}
	case in.Op == 0x0e:
		j.tables(in.Targets)
	case in.Op == 0x0f:
		j.does(j.frames[0].gives, "")
		j.dies()
	case in.Op == 0x10:
		if all := j.all(); j.must(in.N < uint64(len(all)), api.ErrIndex) {
			s := j.m.Types[all[in.N]]
			j.does(letters(s.In), letters(s.Out))
		}
	case in.Op == 0x1a:
		j.does("?", "")
	case in.Op == 0x1b:
		j.does("i", "")
		second := j.does("?", "")
		j.top().stack += j.does(second, "")
	default:
		j.plain(in)
	}
}

func (j *judge) tables(targets []int) {
	j.does("i", "")
	if len(j.found) > 0 {
		return
	}
	last, ok := j.label(uint64(targets[len(targets)-1]))
	for _, n := range targets[:len(targets)-1] {
		if !ok || len(j.found) > 0 {
			return
		}
		label, is := j.label(uint64(n))
		if !is || !j.must(len(label) == len(last), api.ErrType) {
			return
		}
		j.top().stack += j.does(label, "")
	}
	if ok {
		j.does(last, "")
		j.dies()
	}
}

// plain looks at variables, and at what stands in the table by its byte alone.
func (j *judge) plain(in api.Instr) {
	switch in.Op {
	case 0x20, 0x21, 0x22:
		if j.must(in.N < uint64(len(j.locals)), api.ErrIndex) {
			t := j.locals[in.N : in.N+1]
			j.does([]string{"", t, t}[in.Op-0x20], []string{t, "", t}[in.Op-0x20])
		}
	case 0x23, 0x24:
		if !j.must(in.N < uint64(len(j.m.Globals)), api.ErrIndex) {
			return
		}
		t := letters([]int{j.m.Globals[in.N].Type})
		if in.Op == 0x23 {
			j.does("", t)
		} else if j.must(j.m.Globals[in.N].Mut, api.ErrForm) {
			j.does(t, "")
		}
	default:
		if in.Op >= 0x28 && in.Op <= 0x40 && !j.must(j.m.Pages >= 0, api.ErrIndex) {
			return
		}
		takes, gives, _ := strings.Cut(j.table[in.Op], ">")
		j.does(takes, gives)
	}
}
