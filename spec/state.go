package spec

import (
	"slices"

	"bellcrank/api"
	"bellcrank/num"
	"bellcrank/typing"
)

const (
	mostBytes = api.MaxPages * api.Page // of a memory
	mostTold  = 4096                    // numbers of an Input, and of a Log, ahead of a call
)

func mayBe(m api.Module) bool { return typing.Check(m) == api.Fault{} }

func hasMemory(m api.Module) bool { return m.Pages >= 0 }

// first answers the first state of a module that may be.
func first(m api.Module) api.State {
	s := api.State{Most: m.Most * api.Page}
	if hasMemory(m) {
		s.Mem = make([]byte, m.Pages*api.Page)
	}
	for _, d := range m.Datas {
		copy(s.Mem[d.At:], d.Bytes)
	}
	for _, g := range m.Globals {
		s.Globals = append(s.Globals, g.N)
	}
	return s
}

// clone answers a state that shares no memory with s.
func clone(s api.State) api.State {
	s.Mem = slices.Clone(s.Mem)
	s.Globals = slices.Clone(s.Globals)
	s.Input = slices.Clone(s.Input)
	s.Log = slices.Clone(s.Log)
	return s
}

// fitsMemory tells whether the memory of a state is one that the module may have come to. How many pages the module begins with does not count.
func fitsMemory(m api.Module, s api.State) bool {
	if !hasMemory(m) {
		return len(s.Mem) == 0 && s.Most == 0
	}
	return len(s.Mem)%api.Page == 0 && len(s.Mem) <= s.Most && s.Most <= mostBytes
}

func globalTypes(m api.Module) []int {
	var types []int
	for _, g := range m.Globals {
		types = append(types, g.Type)
	}
	return types
}

// fitAll tells whether there is one number for each type, which fits it.
func fitAll(types []int, numbers []uint64) bool {
	if len(types) != len(numbers) {
		return false
	}
	for i, t := range types {
		if !num.Fits(t, numbers[i]) {
			return false
		}
	}
	return true
}
