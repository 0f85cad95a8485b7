package spec_test

import (
	"slices"
	"strconv"
	"strings"
	"testing"

	"bellcrank/api"
	"bellcrank/mem"
	"bellcrank/num"
	"bellcrank/spec"
	"bellcrank/typing"
)

// dice make numbers that look like chance, and are the same ones each time.
type dice uint64

// roll is one of the numbers below n.
func (d *dice) roll(n int) int {
	*d = *d*6364136223846793005 + 1442695040888963407
	return int(uint64(*d)>>33) % n
}

// types are up to so many, as a text.
func (d *dice) types(most int) string {
	var text string
	for range d.roll(most + 1) {
		text += d.letter()
	}
	return text
}

func (d *dice) letter() string { return "il"[d.roll(2):][:1] }

// number is a number of a type, mostly a small one.
func (d *dice) number(letter byte) uint64 {
	l := some(kinds(string(letter))[0])
	if d.roll(3) == 0 {
		return l[d.roll(len(l))]
	}
	return uint64(d.roll(6))
}

// numbers are some of these types.
func (d *dice) numbers(types string) []uint64 {
	var l []uint64
	for i := range types {
		l = append(l, d.number(types[i]))
	}
	return l
}

// writing writes a body that may be, and mostly runs on: it knows what lies on the innermost frame's stack, and puts there what an operator takes, if it does not lie there.
type writing struct {
	*dice
	words   []string
	locals  string
	answers string
	labels  []string
	loops   []bool
	stack   string
	callees map[int]string
	left    int
}

func (w *writing) say(words ...string) { w.words = append(w.words, words...) }

// need takes types from the stack.
func (w *writing) need(takes string) {
	if strings.HasSuffix(w.stack, takes) && w.roll(5) > 0 {
		w.stack = w.stack[:len(w.stack)-len(takes)]
		return
	}
	for _, t := range takes {
		if n := strings.IndexRune(w.locals, t); w.roll(2) == 0 && n >= 0 {
			w.say("20:" + strconv.Itoa(n))
			continue
		}
		w.say(map[rune]string{'i': "41:", 'l': "42:"}[t] + strconv.FormatUint(w.number(byte(t)), 10))
	}
}

// does writes an operator, with what it takes ahead of it.
func (w *writing) does(word, takes, gives string) {
	w.need(takes)
	w.say(word)
	w.stack += gives
}

// target is a frame that a branch may go to, mostly no loop's, as that would never end.
func (w *writing) target() (to int, label string) {
	n := w.roll(len(w.labels))
	for range 3 {
		if w.loops[n] {
			n = w.roll(len(w.labels))
		}
	}
	return len(w.labels) - 1 - n, w.labels[n]
}

// frame writes what is in a frame, and leaves what is around it as it was.
func (w *writing) frame(loop bool, in, out, label string) {
	stack := w.stack
	w.stack, w.labels, w.loops = in, append(w.labels, label), append(w.loops, loop)
	for range 2 + w.roll(8) {
		if w.left--; w.left > 0 {
			w.next()
		}
	}
	switch w.roll(16) {
	case 0:
		w.leave()
		w.stack = out
	case 1:
		w.need(w.answers)
		w.say("0f")
		w.stack = out
	}
	if w.stack != out {
		w.say(slices.Repeat([]string{"1a"}, len(w.stack))...)
		w.stack = ""
		w.need(out)
	}
	w.stack, w.labels, w.loops = stack, w.labels[:len(w.labels)-1], w.loops[:len(w.loops)-1]
}

// leave writes a branch that nothing goes on behind, and then what is never done, of some types.
func (w *writing) leave() {
	to, label := w.target()
	if w.roll(2) == 0 {
		w.does("0c:"+strconv.Itoa(to), label, "")
		return
	}
	text := ""
	for n, l := range w.labels {
		if l == label && w.roll(2) == 0 {
			text += strconv.Itoa(len(w.labels)-1-n) + ","
		}
	}
	w.does("0e:"+text+strconv.Itoa(to), label+"i", "")
}

// next writes some operator.
func (w *writing) next() {
	to, label := w.target()
	switch w.roll(16) {
	case 0, 1, 2, 3:
		w.block()
	case 4:
		w.does("0d:"+strconv.Itoa(to), label+"i", label)
	case 5, 6, 7, 8:
		w.variable()
	case 9:
		n := []int{tell, tell, stop, stop, ask, same, same, swap, swap, under}[w.roll(10)]
		takes, gives, _ := strings.Cut(w.callees[n], ">")
		w.does("10:"+strconv.Itoa(n), takes, gives)
	case 10:
		c := w.letter()
		w.does("1b", c+c+"i", c)
	case 11:
		if w.stack != "" {
			w.say("1a")
			w.stack = w.stack[:len(w.stack)-1]
		}
	case 12, 13:
		w.access()
	default:
		op := allNumbers[w.roll(66)]
		in, out, _ := num.Sig(op)
		w.does(hex2(op), letters(in), letters([]int{out}))
	}
}

// block writes a block with what is in it.
func (w *writing) block() {
	some := []string{"", "", "i", "l", "il", "ii"}
	in, out := some[w.roll(6)], some[w.roll(6)]
	if len(w.labels) > 5 {
		return
	}
	switch w.roll(6) {
	case 0:
		w.does("02"+in+">"+out, in, "")
		w.frame(false, in, out, out)
	case 1:
		w.does("03"+in+">"+out, in, "")
		w.frame(true, in, out, in)
	case 2, 3:
		w.counted(in)
		return
	case 4:
		out = in
		w.does("04"+in+">"+out, in+"i", "")
		w.frame(false, in, out, out)
	case 5:
		w.does("04"+in+">"+out, in+"i", "")
		w.frame(false, in, out, out)
		w.say("else")
		w.frame(false, in, out, out)
	}
	w.say("end")
	w.stack += out
}

// counted writes a loop that is done some times, if what is in it does not turn the last local.
func (w *writing) counted(types string) {
	n := strconv.Itoa(len(w.locals) - 1)
	w.say("41:"+strconv.Itoa(1+w.roll(5)), "21:"+n)
	w.does("03"+types+">"+types, types, "")
	w.frame(true, types, types, types)
	w.say("20:"+n, "41:1", "6b", "22:"+n, "0d:0", "end")
	w.stack += types
}

// variable writes an operator of a local or of a global.
func (w *writing) variable() {
	n := w.roll(len(w.locals) - w.roll(2))
	t, local := w.locals[n:n+1], strconv.Itoa(n)
	g := w.roll(4)
	u, global := "ilil"[g:g+1], strconv.Itoa(g)
	switch w.roll(5) {
	case 0:
		w.does("20:"+local, "", t)
	case 1:
		w.does("21:"+local, t, "")
	case 2:
		w.does("22:"+local, t, t)
	case 3:
		w.does("23:"+global, "", u)
	case 4:
		if g < 2 {
			w.does("24:"+global, u, "")
		}
	}
}

// allAccesses and allNumbers are layer 3's and layer 2's operators.
var (
	allAccesses = slices.Concat(accesses())
	allNumbers  = num.Ops()
)

// access writes an operator of the memory.
func (w *writing) access() {
	if w.roll(4) == 0 {
		w.does("3f", "", "i")
		w.does("40", "i", "i")
		return
	}
	op := allAccesses[w.roll(19)]
	kind, _, store, _ := mem.Access(op)
	word := hex2(op) + ":" + strconv.Itoa([]int{0, 1, 100, 200, 252}[w.roll(5)])
	if store {
		w.does(word, "i"+letters([]int{kind}), "")
	} else {
		w.does(word, "i", letters([]int{kind}))
	}
}

// text is a body that may be of a function of the type, which has the locals l, i.
func (d *dice) text(typ string, callees map[int]string) string {
	in, out, _ := strings.Cut(typ, ">")
	w := writing{dice: d, locals: in + "li", answers: out, left: 60, callees: callees}
	w.frame(false, "", out, out)
	return strings.Join(w.words, " ")
}

// scene is a call in a state.
type scene struct {
	m    api.Module
	s    api.State
	n    int
	args []uint64
}

// scene is a random call of the world with random bodies, in a random state.
func (d *dice) scene() (scene, bool) {
	m := world()
	callees := funcs()
	callees[under] = d.types(3) + ">" + d.types(3)
	for _, n := range []int{same, under, swap} {
		put(&m, n-imported, callees[n], "li", d.text(callees[n], callees))
	}
	if len(m.Types) > 32 || typing.Check(m).Why == api.ErrForm {
		return scene{}, false
	}
	s := begun(m)
	s.Fuel = []int{0, 2, 10, 30, 100, 300, 1024}[d.roll(7)]
	s.Most = []int{256, 512, 700, 768, 4096}[d.roll(5)]
	s.Globals = d.numbers("ilil")
	s.Input = d.numbers(strings.Repeat("l", min(d.roll(4), 1)*d.roll(300)))
	s.Log = d.numbers("ll"[:d.roll(3)])
	n := []int{under, under, under, under, same, swap, tell, ask}[d.roll(8)]
	takes, _, _ := strings.Cut(callees[n], ">")
	return scene{m, s, n, d.numbers(takes)}, true
}

// scenes are some calls.
func scenes(count int) []scene {
	var l []scene
	for seed := range count {
		d := dice(seed)
		if c, ok := d.scene(); ok {
			l = append(l, c)
		}
	}
	return l
}

// met counts the operators, with those within others.
func met(l []api.Instr, count map[int]int) {
	for _, in := range l {
		count[in.Op]++
		met(in.Body, count)
		met(in.Else, count)
	}
}

// P6.3: random calls are held against the document's words told once more.
func TestP63Random(t *testing.T) {
	t.Parallel()
	ends, operators := map[api.Errno]int{}, map[int]int{}
	loops := 0
	for _, c := range scenes(3000) {
		got := called(t, "a random call", c.m, c.s, c.n, c.args)
		ends[got.why]++
		for _, f := range c.m.Funcs {
			met(f.Body, operators)
		}
		if got.why == api.OK && c.s.Fuel-got.state.Fuel > 2 {
			loops++
		}
		if t.Failed() {
			t.Fatal(c)
		}
	}
	if len(operators) != 66+19+2+5+2+10 {
		t.Error("only", len(operators), "operators were met")
	}
	for why, least := range map[api.Errno]int{
		api.OK: 1200, api.TrapZero: 50, api.TrapMem: 200, api.TrapFuel: 300, api.TrapDeep: 50, api.TrapInput: 150,
	} {
		if ends[why] < least {
			t.Error("the calls are too much alike:", ends)
		}
	}
	if loops < 150 {
		t.Error("only", loops, "calls go through loops or other functions")
	}
}

// P6.4: what does not run out of the fuel is the same with more of it, which is left over; what does runs out of less, too.
func TestP64MoreFuel(t *testing.T) {
	t.Parallel()
	held := 0
	for _, c := range scenes(250) {
		c.s.Fuel = 0
		want, known := outcome{}, false
		for have := range 40 {
			c.s.Fuel = have
			var got outcome
			got.results, got.state, got.why = spec.Call(c.m, c.s, c.n, c.args)
			if got.state.Fuel < 0 || got.state.Fuel > have {
				t.Error("fuel", have, "became", got.state.Fuel)
			}
			switch {
			case known:
				want.state.Fuel++
				held++
				if !equal(got, want) {
					t.Error("with fuel", have, "it is", got, "and not", want)
				}
			case got.why == api.TrapFuel:
				if got.state.Fuel != 0 {
					t.Error("there is fuel left:", got)
				}
			default:
				want, known = got, true
			}
		}
	}
	if held < 4000 {
		t.Error("only", held, "calls with more fuel")
	}
}

// P6.5, P6.6: what was there is there, and the state fits behind the call.
func TestP65P66WhatStays(t *testing.T) {
	t.Parallel()
	grown, logged, asked, again := 0, 0, 0, 0
	for _, c := range scenes(600) {
		s := c.s
		for range 4 {
			_, next, _ := spec.Call(c.m, s, c.n, c.args)
			if len(next.Mem) < len(s.Mem) || next.Most != s.Most {
				t.Error("the memory shrank, or may grow to something else")
			}
			if len(next.Log) < len(s.Log) || !slices.Equal(next.Log[:len(s.Log)], s.Log) {
				t.Error("the Log lost something:", s.Log, next.Log)
			}
			gone := len(s.Input) - len(next.Input)
			if gone < 0 || !slices.Equal(s.Input[gone:], next.Input) {
				t.Error("Input lost what was not first:", s.Input, next.Input)
			}
			if len(next.Log) <= 4096 && !spec.Fits(c.m, next) {
				t.Error("a state does not fit behind a call:", next)
			}
			if len(next.Log) > 4096 {
				break
			}
			grown += len(next.Mem) - len(s.Mem)
			logged += len(next.Log) - len(s.Log)
			asked += gone
			again++
			s = next
		}
	}
	if grown < 100*256 || logged < 2000 || asked < 900 || again < 2000 {
		t.Error("the calls are too much alike:", grown, logged, asked, again)
	}
}

// P6.3, layer 5: the results are as many as the type has, and fit it.
func TestP63Results(t *testing.T) {
	for _, c := range scenes(600) {
		got, _, why := spec.Call(c.m, c.s, c.n, c.args)
		typ, _ := typing.SigOf(c.m, c.n)
		if why != api.OK {
			typ.Out = nil
		}
		if len(got) != len(typ.Out) {
			t.Fatal("results", got, "of", typ)
		}
		for i, n := range got {
			if !num.Fits(typ.Out[i], n) {
				t.Error("results", got, "of", typ)
			}
		}
	}
}
