package typing_test

import (
	"slices"
	"strconv"
	"strings"
	"testing"

	"bellcrank/api"
	"bellcrank/typing"
	"bellcrank/wasm"
)

// dice make numbers that look like chance, and are the same ones each time.
type dice uint64

// roll is one of the numbers below n.
func (d *dice) roll(n int) int {
	*d = *d*6364136223846793005 + 1442695040888963407
	return int(uint64(*d)>>33) % n
}

// types are up to so many, as a text.
func (d *dice) types(most int) string {
	var text string
	for range d.roll(most + 1) {
		text += d.letter()
	}
	return text
}

func (d *dice) letter() string { return "il"[d.roll(2):][:1] }

// writing writes a body that may be: it knows what lies on the innermost frame's stack, and puts there what an operator takes, if it does not lie there.
type writing struct {
	*dice
	words   []string
	locals  string
	answers string
	labels  []string
	stack   string
	dead    bool
	left    int
}

func (w *writing) say(words ...string) { w.words = append(w.words, words...) }

// need takes types from the stack. In a dead frame not all must lie there.
func (w *writing) need(takes string) {
	if strings.HasSuffix(w.stack, takes) && w.roll(4) > 0 {
		w.stack = w.stack[:len(w.stack)-len(takes)]
		return
	}
	from := 0
	if w.dead && w.stack == "" {
		from = w.roll(len(takes) + 1)
	}
	w.say(strings.Fields(pushes(takes[from:]))...)
}

// does writes an operator, with what it takes ahead of it.
func (w *writing) does(word, takes, gives string) {
	w.need(takes)
	w.say(word)
	w.stack += gives
}

// leaves writes an operator that nothing goes on behind.
func (w *writing) leaves(word, takes string) {
	w.does(word, takes, "")
	w.stack, w.dead = "", true
}

// frame writes what is in a frame, and leaves what is around it as it was.
func (w *writing) frame(in, out, label string) {
	stack, dead := w.stack, w.dead
	w.stack, w.dead, w.labels = in, false, append(w.labels, label)
	for range w.roll(6) {
		if w.left--; w.left > 0 {
			w.next()
		}
	}
	if w.stack != out || w.roll(3) == 0 {
		w.say(slices.Repeat([]string{"1a"}, len(w.stack))...)
		w.stack = ""
		w.need(out)
	}
	w.stack, w.dead, w.labels = stack, dead, w.labels[:len(w.labels)-1]
}

// next writes some operator.
func (w *writing) next() {
	to := w.roll(len(w.labels))
	label := w.labels[len(w.labels)-1-to]
	switch w.roll(18) {
	case 0, 1, 2:
		w.block()
	case 3:
		w.does("0d:"+strconv.Itoa(to), label+"i", label)
	case 4:
		w.leaves("0c:"+strconv.Itoa(to), label)
	case 5:
		w.leaves("0e:"+w.others(label)+strconv.Itoa(to), label+"i")
	case 6:
		w.leaves("0f", w.answers)
	case 7:
		w.leaves("00", "")
	case 8, 9:
		w.variable()
	case 10:
		n := w.roll(3)
		takes, gives, _ := strings.Cut(worldSigs()[n], ">")
		w.does("10:"+strconv.Itoa(n), takes, gives)
	case 11:
		c := w.letter()
		w.does("1b", c+c+"i", c)
	case 12:
		if w.stack != "" {
			w.say("1a")
			w.stack = w.stack[:len(w.stack)-1]
		}
	default:
		w.plain()
	}
}

// others are targets, each with a comma, whose labels are like this one.
func (w *writing) others(label string) string {
	text := ""
	for n, l := range w.labels {
		if l == label && w.roll(2) == 0 {
			text += strconv.Itoa(len(w.labels)-1-n) + ","
		}
	}
	return text
}

// block writes a block with what is in it.
func (w *writing) block() {
	in, out := w.types(2), w.types(2)
	if len(w.labels) > 5 {
		return
	}
	switch w.roll(4) {
	case 0:
		w.does("02"+in+">"+out, in, "")
		w.frame(in, out, out)
	case 1:
		w.does("03"+in+">"+out, in, "")
		w.frame(in, out, in)
	case 2:
		out = in
		w.does("04"+in+">"+out, in+"i", "")
		w.frame(in, out, out)
	case 3:
		w.does("04"+in+">"+out, in+"i", "")
		w.frame(in, out, out)
		w.say("else")
		w.frame(in, out, out)
	}
	w.say("end")
	w.stack += out
}

// variable writes an operator of a local or of a global.
func (w *writing) variable() {
	n := w.roll(len(w.locals))
	t, local := w.locals[n:n+1], strconv.Itoa(n)
	g := w.roll(4)
	u, global := "ilil"[g:g+1], strconv.Itoa(g)
	switch w.roll(5) {
	case 0:
		w.does("20:"+local, "", t)
	case 1:
		w.does("21:"+local, t, "")
	case 2:
		w.does("22:"+local, t, t)
	case 3:
		w.does("23:"+global, "", u)
	case 4:
		if g < 2 {
			w.does("24:"+global, u, "")
		}
	}
}

// plain writes an operator whose types hang on its byte alone.
func (w *writing) plain() {
	rows := rowsOf([]string{numberRows, accessRows, memoryRows + " " + otherRows}[w.roll(3)])
	for {
		op := w.roll(256)
		if typ, ok := rows[op]; ok {
			takes, gives, _ := strings.Cut(typ, ">")
			w.does(hex2(op), takes, gives)
			return
		}
	}
}

// text is a body that may be, and its type.
func (d *dice) text() (typ, body string) {
	in, out := d.types(3), d.types(3)
	w := writing{dice: d, locals: in + "li", answers: out, left: 40}
	w.frame("", out, out)
	return in + ">" + out, strings.Join(w.words, " ")
}

// someModules are some that may be, with random bodies of the one function under test and of the last one.
func someModules(count int) []api.Module {
	l := []api.Module{world(), threeOfAll()}
	for seed := range count {
		d := dice(seed)
		typ, text := d.text()
		m := bodyOf(typ, text)
		typ, text = d.text()
		put(&m, 2, typ, "li", text)
		m.Exports = []api.Export{{Name: "a", N: 3}, {Name: "b", Kind: 2}, {Name: "c", Kind: 3, N: d.roll(4)}}[:d.roll(4)]
		if len(m.Types) <= 32 {
			l = append(l, m)
		}
	}
	return l
}

// holds holds Check of a module against the document's words told once more, and tells whether it may be.
func holds(t *testing.T, m api.Module) bool {
	t.Helper()
	want, clear := first(m)
	got := typing.Check(m)
	if clear && got != want {
		t.Errorf("%v, not %v, of %v", got, want, m)
	}
	return got == api.Fault{}
}

// P5.1: random modules that may be.
func TestP51RandomModules(t *testing.T) {
	operators := map[int]int{}
	for _, m := range someModules(3000) {
		if !holds(t, m) {
			t.Errorf("a module that may be is refused: %v", m)
		}
		for _, f := range m.Funcs {
			for _, s := range inRow(f.Body) {
				operators[s.in.Op]++
			}
		}
	}
	if len(operators) < 5+3+8+2+19+3+66 {
		t.Error("only", len(operators), "operators were met")
	}
}

// places are all places of operators, those within others too.
func places(l []api.Instr) (out []*api.Instr) {
	for i := range l {
		out = append(out, &l[i])
		out = append(out, places(l[i].Body)...)
		out = append(out, places(l[i].Else)...)
	}
	return out
}

// spoilt turns something of one operator, so that mostly bytes can say it still.
func (d *dice) spoilt(in *api.Instr) {
	others := strings.Fields("01 41 42 1a 1b 00 0f 3f 40 0c:0 0c:1 0d:0 0d:1 0e:0,1 6a 7c 45 50 a7 ac 28 37 20:0 22:1 23:1 24:0 24:2 10:0 10:4")
	block := within(in.Op, 2, 3, 4)
	switch n := d.roll(6); {
	case n == 0 || n < 4 && !block && in.Op != 0x0e:
		*in = ops(others[d.roll(len(others))])[0]
	case block && n == 1:
		in.Type.Out = kinds(d.types(2))
	case block && n == 2:
		in.Type.In = kinds(d.types(2))
	case block && n == 3:
		in.HasElse = !in.HasElse
		in.Else = nil
	case block:
		in.Op = 2 + d.roll(3)
	case in.Op == 0x0e:
		in.Targets[d.roll(len(in.Targets))] = d.roll(5)
	default:
		in.N = uint64(d.roll(7))
	}
}

// P5.1: random bodies with one operator turned, left out, told twice, or changed with the one behind it.
func TestP51RandomFaults(t *testing.T) {
	t.Parallel()
	good, bad := 0, map[api.Errno]int{}
	for i, m := range someModules(1500) {
		for seed := range 12 {
			d := dice(1000*i + seed)
			turned := clone(m)
			f := &turned.Funcs[d.roll(3)]
			l := places(f.Body)
			if len(l) == 0 {
				continue
			}
			switch n := d.roll(len(f.Body)); d.roll(9) {
			case 0:
				f.Body = slices.Delete(f.Body, n, n+1)
			case 1:
				f.Body = slices.Insert(f.Body, n, f.Body[n])
			case 2:
				f.Body[0], f.Body[n] = f.Body[n], f.Body[0]
			default:
				d.spoilt(l[d.roll(len(l))])
			}
			know(&turned, f.Body)
			if len(turned.Types) > 32 {
				continue
			}
			if holds(t, turned) {
				good++
			}
			bad[typing.Check(turned).Why]++
		}
	}
	if good < 1000 || bad[api.ErrType] < 3000 || bad[api.ErrIndex] < 1000 || bad[api.ErrForm] < 300 {
		t.Error("the modules are too much alike:", good, bad)
	}
}

// P5.1: all bodies of up to four operators of some, in functions and in frames of some types.
func TestP51SmallBodies(t *testing.T) {
	t.Parallel()
	words := []string{"41", "42", "1a", "1b", "00", "0c:0", "0d:0", "0e:0", "0f", "45", "ac", "20:0", "22:1"}
	good, all := 0, 0
	var grow func(body []api.Instr, left int, frames []func(body []api.Instr) api.Module)
	grow = func(body []api.Instr, left int, frames []func(body []api.Instr) api.Module) {
		for _, frame := range frames {
			all++
			if holds(t, frame(body)) {
				good++
			}
		}
		for _, word := range words {
			if left > 0 {
				grow(append(slices.Clone(body), ops(word)...), left-1, frames)
			}
		}
	}
	plain := func(typ string) func(body []api.Instr) api.Module {
		m := bodyOf(typ, "")
		return func(body []api.Instr) api.Module {
			m.Funcs[under].Body = body
			return m
		}
	}
	framed := func(ahead, behind string, block int, typ string) func(body []api.Instr) api.Module {
		m := bodyOf(">l", ahead)
		typeOf(&m, sig(typ))
		return func(body []api.Instr) api.Module {
			l := append(ops(ahead), api.Instr{Op: block, Type: sig(typ), Body: body})
			m.Funcs[under].Body = append(l, ops(behind)...)
			return m
		}
	}
	grow(nil, 4, []func(body []api.Instr) api.Module{plain(">"), plain(">i")})
	grow(nil, 3, []func(body []api.Instr) api.Module{
		plain("l>il"), framed("41", "", 2, "i>l"), framed("41", "", 3, "i>l"), framed("42 41", "", 4, "l>l"), framed("00", "", 2, "i>il"), framed("42 42", "1a", 3, "l>l"),
	})
	if good < 1000 || all-good < 1000 {
		t.Error("the bodies are too much alike:", good, all)
	}
}

// R1: modules of which each number, each truth and each list is turned. No call panics, and Check is what the document's words say.
func TestR1TurnedModules(t *testing.T) {
	t.Parallel()
	passed := 0
	for _, m := range someModules(12) {
		allTurned(m, func(v api.Module) {
			if holds(t, v) {
				passed++
			}
			for _, n := range []int{-1 << 63, -1, 0, 1, 2, 3, 4, 5, 1<<63 - 1} {
				typing.SigOf(v, n)
			}
			typing.Find(v, "a")
			for _, f := range v.Funcs {
				typing.Count(f.Body)
			}
		})
	}
	if passed < 100 {
		t.Error("only", passed, "turned modules may be")
	}
}

// T4: a module that may be is written, read, found to have no fault, and written again as the same bytes.
func TestT4RoundTrip(t *testing.T) {
	for _, m := range someModules(500) {
		passes(t, "a module that may be", m)
		b, why := wasm.Encode(m)
		back, fault := wasm.Decode(b)
		if why != api.OK || fault != (api.Fault{}) {
			t.Fatal("a module that may be is not written or read:", why, fault)
		}
		passes(t, "what was read", back)
		again, why := wasm.Encode(back)
		if why != api.OK || !slices.Equal(again, b) || !wasm.Same(m, back) {
			t.Fatal("what was read is written otherwise:", why)
		}
	}
}
