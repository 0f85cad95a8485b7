package ssa

import "bellcrank/api"

// asked calls do with each place in which a function asks for a value.
func asked(f api.Fn, do func(place *int)) {
	for b := range f.Blocks {
		for _, in := range f.Blocks[b].Code {
			all(in.Args, do)
		}
		askedByEnd(&f.Blocks[b].Term, do)
	}
}

// askedByEnd calls do with each place in which an end asks for a value. Of an end of any other Kind the Arg is no value.
func askedByEnd(t *api.Term, do func(place *int)) {
	if t.Kind == api.EndIf || t.Kind == api.EndTable {
		do(&t.Arg)
	}
	all(t.Args, do)
	for _, edge := range t.To {
		all(edge.Args, do)
	}
}

func all(l []int, do func(place *int)) {
	for i := range l {
		do(&l[i])
	}
}
