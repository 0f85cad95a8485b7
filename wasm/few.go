package wasm

import (
	"slices"

	"bellcrank/api"
)

const (
	mostItems    = 64   // the most of a module's types, functions and so on
	mostElements = 4096 // the most elements of any other list
)

// fewTexts tells whether no name is too long.
func fewTexts(m api.Module) bool {
	for _, i := range m.Imports {
		if len(i.Mod) > api.MaxName || len(i.Name) > api.MaxName {
			return false
		}
	}
	for _, e := range m.Exports {
		if len(e.Name) > api.MaxName {
			return false
		}
	}
	return true
}

// fewElements tells whether no list is too long, and no function has too many operators, or too deep ones.
func fewElements(m api.Module) bool {
	for _, t := range m.Types {
		if !fewOfSig(t) {
			return false
		}
	}
	for _, d := range m.Datas {
		if len(d.Bytes) > mostElements {
			return false
		}
	}
	for _, f := range m.Funcs {
		left := api.MaxOps
		if len(f.Locals) > mostElements || !fewOfBody(f.Body, 0, &left) {
			return false
		}
	}
	return true
}

func fewOfSig(s api.Sig) bool { return len(s.In) <= mostElements && len(s.Out) <= mostElements }

// fewOfBody takes operators within depth blocks off those that are left of a function. The depth ends the walk, also where operators stand within themselves.
func fewOfBody(l []api.Instr, depth int, left *int) bool {
	if len(l) == 0 {
		return true
	}
	if depth > api.MaxNest || len(l) > *left {
		return false
	}
	*left -= len(l)
	for _, in := range l {
		if !fewOfSig(in.Type) || len(in.Targets) > mostElements {
			return false
		}
		if !fewOfBody(in.Body, depth+1, left) || !fewOfBody(in.Else, depth+1, left) {
			return false
		}
	}
	return true
}

// same holds two modules that are few against each other.
func same(a, b api.Module) bool {
	return slices.EqualFunc(a.Types, b.Types, sameSig) &&
		slices.Equal(a.Imports, b.Imports) &&
		slices.EqualFunc(a.Funcs, b.Funcs, sameFunc) &&
		a.Pages == b.Pages && a.Most == b.Most &&
		slices.Equal(a.Globals, b.Globals) &&
		slices.Equal(a.Exports, b.Exports) &&
		a.Start == b.Start &&
		slices.EqualFunc(a.Datas, b.Datas, sameData)
}

func sameSig(a, b api.Sig) bool { return slices.Equal(a.In, b.In) && slices.Equal(a.Out, b.Out) }

func sameFunc(a, b api.Func) bool {
	return a.Type == b.Type && slices.Equal(a.Locals, b.Locals) && sameBody(a.Body, b.Body)
}

func sameData(a, b api.Data) bool { return a.At == b.At && slices.Equal(a.Bytes, b.Bytes) }

func sameBody(a, b []api.Instr) bool { return slices.EqualFunc(a, b, sameInstr) }

func sameInstr(a, b api.Instr) bool {
	return a.Op == b.Op && a.N == b.N && a.M == b.M && sameSig(a.Type, b.Type) &&
		sameBody(a.Body, b.Body) && sameBody(a.Else, b.Else) && a.HasElse == b.HasElse &&
		slices.Equal(a.Targets, b.Targets)
}
