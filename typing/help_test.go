package typing_test

import (
	"slices"
	"strconv"
	"strings"
	"testing"

	"bellcrank/api"
	"bellcrank/typing"
)

// The calls have just these types.
var (
	_ func(api.Module) api.Fault                  = typing.Check
	_ func(api.Module, int) (api.Sig, bool)       = typing.SigOf
	_ func(api.Module, string) (api.Export, bool) = typing.Find
	_ func([]api.Instr) int                       = typing.Count
)

// kinds reads types: i is I32, l is I64.
func kinds(text string) []int {
	var l []int
	for _, c := range text {
		l = append(l, map[rune]int{'i': 0x7f, 'l': 0x7e}[c])
	}
	return l
}

// sig reads a function's type: what it takes, and, behind the mark, what it answers.
func sig(text string) api.Sig {
	in, out, _ := strings.Cut(text, ">")
	return api.Sig{In: kinds(in), Out: kinds(out)}
}

// reading reads operators of words: an operator's byte in hexadecimal; behind a colon its numbers; behind a block's byte its type, and what is in it up to the word end, or up to else and then end. An exclamation mark stands ahead of a word that is meant, or by itself at the end of all.
type reading struct {
	words []string
	ops   int
	mark  int
}

func (r *reading) list() (l []api.Instr, last string) {
	for len(r.words) > 0 {
		word, meant := strings.CutPrefix(r.words[0], "!")
		r.words = r.words[1:]
		if meant {
			r.mark = r.ops
		}
		switch word {
		case "":
			continue
		case "else", "end":
			return l, word
		}
		r.ops++
		l = append(l, r.operator(word))
	}
	return l, ""
}

func (r *reading) operator(word string) api.Instr {
	in := api.Instr{Op: int(number(word[:2], 16))}
	rest := word[2:]
	switch {
	case in.Op >= 2 && in.Op <= 4:
		in.Type = sig(rest)
		last := ""
		in.Body, last = r.list()
		if last == "else" {
			in.HasElse = true
			in.Else, _ = r.list()
		}
	case in.Op == 0x0e:
		for _, to := range strings.Split(rest[1:], ",") {
			in.Targets = append(in.Targets, int(number(to, 10)))
		}
	case rest != "":
		in.N = number(rest[1:], 10)
	}
	return in
}

func number(text string, base int) uint64 {
	n, err := strconv.ParseUint(text, base, 64)
	if err != nil {
		panic(err)
	}
	return n
}

// ops reads operators.
func ops(text string) []api.Instr {
	l, _ := marked(text)
	return l
}

// marked reads operators, and answers the number of the one that is marked, or how many there are.
func marked(text string) ([]api.Instr, int) {
	r := reading{words: strings.Fields(text)}
	l, _ := r.list()
	if !strings.Contains(text, "!") {
		return l, r.ops
	}
	return l, r.mark
}

// pushes are constants of these types.
func pushes(text string) string {
	return strings.NewReplacer("i", "41:7 ", "l", "42:7 ").Replace(text)
}

// other is the other type of a value.
func other(c byte) string {
	if c == 'i' {
		return "l"
	}
	return "i"
}

// typeOf answers the number of a type, which the module gets, if it has it not.
func typeOf(m *api.Module, s api.Sig) int {
	for i, t := range m.Types {
		if slices.Equal(t.In, s.In) && slices.Equal(t.Out, s.Out) {
			return i
		}
	}
	m.Types = append(m.Types, s)
	return len(m.Types) - 1
}

// know gives the module the types of all blocks.
func know(m *api.Module, l []api.Instr) {
	for _, in := range l {
		if in.Op >= 2 && in.Op <= 4 && len(in.Type.In)+len(in.Type.Out) > 0 {
			typeOf(m, in.Type)
		}
		know(m, in.Body)
		know(m, in.Else)
	}
}

// put gives the n-th function a type, locals and a body.
func put(m *api.Module, n int, typ, locals, text string) {
	f := &m.Funcs[n]
	f.Type, f.Locals, f.Body = typeOf(m, sig(typ)), kinds(locals), ops(text)
	know(m, f.Body)
}

// The functions of the world, the imported ones first. The one under test is the fourth one of all, the second one that has a body.
const (
	worldFuncs = 5
	under      = 1
)

// world is a module with something of all that a body may ask for.
func world() api.Module {
	m := api.Module{
		Types: []api.Sig{{}}, Pages: 1, Most: 3, Start: -1,
		Funcs:   make([]api.Func, 3),
		Globals: []api.Global{{Type: 0x7f, Mut: true}, {Type: 0x7e, Mut: true}, {Type: 0x7f}, {Type: 0x7e}},
	}
	m.Imports = []api.Import{{Mod: "env", Name: "tell", Type: typeOf(&m, sig("il>l"))}, {Mod: "env", Name: "stop"}}
	put(&m, 0, "i>i", "", "20:0")
	put(&m, 2, "li>il", "", "20:1 20:0")
	return m
}

// worldSigs are the types of the world's functions, but of the one under test.
func worldSigs() map[int]string { return map[int]string{0: "il>l", 1: ">", 2: "i>i", 4: "li>il"} }

// bodyOf is the world with a function under test, which has the locals l, i.
func bodyOf(typ, text string) api.Module {
	m := world()
	put(&m, under, typ, "li", text)
	return m
}

// checks holds Check of a module against a fault, and looks that the module stays.
func checks(t *testing.T, what string, m api.Module, want api.Fault) {
	t.Helper()
	before := clone(m)
	if got := typing.Check(m); got != want {
		t.Errorf("%s: %v, not %v", what, got, want)
	}
	if !equal(m, before) {
		t.Errorf("%s: Check turned the module", what)
	}
}

// whole is a fault that is no body's.
func whole(why api.Errno) api.Fault { return api.Fault{Why: why, At: -1} }

func passes(t *testing.T, what string, m api.Module) {
	t.Helper()
	checks(t, what, m, api.Fault{})
}

// bodyPasses holds a body of the world, which may be.
func bodyPasses(t *testing.T, typ, text string) {
	t.Helper()
	passes(t, typ+": "+text, bodyOf(typ, text))
}

// bodyFails holds a body of the world against a fault at the operator that is marked; where none is, at the body's end.
func bodyFails(t *testing.T, why api.Errno, typ, text string) {
	t.Helper()
	_, op := marked(text)
	checks(t, typ+": "+text, bodyOf(typ, text), api.Fault{Why: why, At: under, Op: op})
}
