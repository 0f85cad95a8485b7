package ssa_test

import (
	"fmt"
	"strconv"
	"strings"
	"testing"

	"bellcrank/api"
	"bellcrank/ssa"
)

// The calls have just these types.
var (
	_ func(api.Env) bool         = ssa.EnvRight
	_ func(api.Env, api.Fn) bool = ssa.Check
	_ func(api.Fn) [][]int       = ssa.Succ
	_ func(int) bool             = ssa.Pure
	_ func(api.Fn) int           = ssa.Count
	_ func(api.Fn, []int) api.Fn = ssa.Replace
	_ func(a, b api.Fn) bool     = ssa.Same
	_ func(api.Fn) []bool        = ssa.Used
)

// types reads types: i is I32, l is I64, and anything else is none.
func types(text string) []int {
	var l []int
	for _, c := range text {
		switch c {
		case 'i':
			l = append(l, api.I32)
		case 'l':
			l = append(l, api.I64)
		default:
			l = append(l, int(c))
		}
	}
	return l
}

// sig reads a function's type, as in il>i.
func sig(text string) api.Sig {
	in, out, ok := strings.Cut(text, ">")
	if !ok {
		panic(text)
	}
	return api.Sig{In: types(in), Out: types(out)}
}

func number(word string) int {
	n, err := strconv.Atoi(word)
	if err != nil {
		panic(err)
	}
	return n
}

func numbers(words []string) []int {
	var l []int
	for _, word := range words {
		l = append(l, number(word))
	}
	return l
}

// fn reads a function: its type, its values' types, and its blocks behind one another, with a / between. A block has its Params, its instructions (with a ; between) and its end, with a | between.
func fn(head, values, text string) api.Fn {
	f := api.Fn{Sig: sig(head), Types: types(values)}
	for _, block := range strings.Split(text, "/") {
		part := strings.Split(block, "|")
		if len(part) != 3 {
			panic(block)
		}
		b := api.Block{Params: numbers(strings.Fields(part[0])), Term: end(part[2])}
		for _, in := range strings.Split(part[1], ";") {
			if strings.TrimSpace(in) != "" {
				b.Code = append(b.Code, ins(in))
			}
		}
		f.Blocks = append(f.Blocks, b)
	}
	return f
}

// ins reads an instruction: its operator, with a # and its N behind that; its Args; and, behind a =, its Outs.
func ins(text string) api.Ins {
	left, right, _ := strings.Cut(text, "=")
	words := strings.Fields(left)
	name, n, has := strings.Cut(words[0], "#")
	in := api.Ins{Op: operator(name), Args: numbers(words[1:]), Outs: numbers(strings.Fields(right))}
	if has {
		m, err := strconv.ParseUint(n, 0, 64)
		if err != nil {
			panic(err)
		}
		in.N = m
	}
	return in
}

// operator reads an operator: a word, or its number in hexadecimal.
func operator(name string) int {
	switch name {
	case "const":
		return 0x100
	case "check":
		return 0x101
	case "tick":
		return 0x102
	}
	n, err := strconv.ParseInt(name, 16, 64)
	if err != nil {
		panic(err)
	}
	return int(n)
}

// end reads an end: its Kind, its Arg or Args, and its edges, each a block with values in ().
func end(text string) api.Term {
	words := strings.Fields(text)
	var t api.Term
	rest := words[1:]
	switch words[0] {
	case "br":
		t.Kind = 1
	case "if", "table":
		t.Kind, t.Arg, rest = 2, number(rest[0]), rest[1:]
		if words[0] == "table" {
			t.Kind = 3
		}
	case "ret":
		t.Kind, t.Args, rest = 4, numbers(rest), nil
	case "trap":
		t.Kind = 5
	default:
		panic(text)
	}
	for _, word := range rest {
		t.To = append(t.To, edge(word))
	}
	return t
}

func edge(word string) api.Edge {
	to, args, _ := strings.Cut(strings.TrimSuffix(word, ")"), "(")
	return api.Edge{To: number(to), Args: numbers(strings.FieldsFunc(args, func(r rune) bool { return r == ',' }))}
}

// told writes a function, or anything else.
func told(x any) string { return fmt.Sprintf("%x", x) }

// upTo are the numbers from 0 on, so many.
func upTo(count int) []int {
	var l []int
	for n := range count {
		l = append(l, n)
	}
	return l
}

// words are the numbers of from to to, less 1, with a blank between.
func words(from, to int) string {
	var l []string
	for n := from; n < to; n++ {
		l = append(l, strconv.Itoa(n))
	}
	return strings.Join(l, " ")
}

// world is an environment with something of each kind.
func world() api.Env {
	return api.Env{
		Sigs: []api.Sig{sig("il>i"), sig(">"), sig("l>il")}, Imports: 1,
		Globals: types("ill"), Muts: []bool{true, false, true}, Mem: true,
	}
}

// checks holds that Check answers whether f may be in e, and that the oracle says so for just that rule (none, if it may be).
func checks(t *testing.T, what string, e api.Env, f api.Fn, rule string) {
	t.Helper()
	if have := strings.Join(faults(e, f), ", "); have != rule {
		t.Errorf("%s: the test's words say %q, the test's rules %q", what, rule, have)
	}
	if have := ssa.Check(e, f); have != (rule == "") {
		t.Errorf("%s: Check answers %v", what, have)
	}
}

// dice make numbers that look like chance, and are the same ones each time.
type dice uint64

// roll is one of the numbers below n.
func (d *dice) roll(n int) int {
	*d = *d*6364136223846793005 + 1442695040888963407
	return int(uint64(*d)>>33) % n
}

// one tells whether a thing comes that comes one time of n.
func (d *dice) one(n int) bool { return d.roll(n) == 0 }
