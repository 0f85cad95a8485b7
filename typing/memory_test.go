package typing_test

import (
	"reflect"
	"slices"
	"testing"

	"bellcrank/api"
	"bellcrank/typing"
)

// alike tells whether two values are the same, where a list that is nil and an empty one are.
func alike(a, b reflect.Value) bool {
	switch a.Kind() {
	case reflect.Slice:
		if a.Len() != b.Len() {
			return false
		}
		for i := range a.Len() {
			if !alike(a.Index(i), b.Index(i)) {
				return false
			}
		}
		return true
	case reflect.Struct:
		for i := range a.NumField() {
			if !alike(a.Field(i), b.Field(i)) {
				return false
			}
		}
		return true
	}
	return a.Equal(b)
}

// equal tells whether two values of one type are the same.
func equal[T any](a, b T) bool { return alike(reflect.ValueOf(a), reflect.ValueOf(b)) }

// copied is a value in memory of its own. Lists get so much room behind their end; with behind, they have what stands in the room of x's, too.
func copied[T any](x T, room int, behind bool) T {
	var out T
	fill(reflect.ValueOf(&out).Elem(), reflect.ValueOf(x), room, behind)
	return out
}

func clone[T any](x T) T { return copied(x, 0, false) }

// fill makes to a copy of from.
func fill(to, from reflect.Value, room int, behind bool) {
	switch from.Kind() {
	case reflect.Slice:
		if behind {
			from = from.Slice(0, from.Cap())
		}
		if from.Len()+room == 0 {
			return
		}
		to.Set(reflect.MakeSlice(from.Type(), from.Len(), from.Len()+room))
		for i := range from.Len() {
			fill(to.Index(i), from.Index(i), room, behind)
		}
	case reflect.Struct:
		for i := range from.NumField() {
			fill(to.Field(i), from.Field(i), room, behind)
		}
	default:
		to.Set(from)
	}
}

// overwrite turns all that a value's lists can reach, their room behind their end too.
func overwrite(v reflect.Value) {
	switch v.Kind() {
	case reflect.Slice:
		all := v.Slice(0, v.Cap())
		for i := range all.Len() {
			overwrite(all.Index(i))
		}
	case reflect.Struct:
		for i := range v.NumField() {
			overwrite(v.Field(i))
		}
	case reflect.Int:
		v.SetInt(^v.Int())
	case reflect.Uint8, reflect.Uint64:
		v.SetUint(^v.Uint())
	case reflect.Bool:
		v.SetBool(!v.Bool())
	case reflect.String:
		v.SetString("turned")
	}
}

// spoil overwrites what x's lists hold.
func spoil[T any](x *T) { overwrite(reflect.ValueOf(x).Elem()) }

// R4: no call writes into the module that it was handed, its lists' room too.
func TestR4NothingIsWritten(t *testing.T) {
	for _, m := range someModules(60) {
		handed := copied(m, 9, false)
		before := copied(handed, 0, true)
		typing.Check(handed)
		for n := range 6 {
			typing.SigOf(handed, n)
		}
		for _, e := range handed.Exports {
			typing.Find(handed, e.Name)
		}
		for _, f := range handed.Funcs {
			typing.Count(f.Body)
		}
		if !equal(copied(handed, 0, true), before) {
			t.Error("a call turned what it was handed")
		}
	}
}

// span is the memory that a list may be written in, its room behind its end too.
type span struct{ from, to uintptr }

func spanOf(l []int) span {
	from := reflect.ValueOf(l).Pointer()
	return span{from, from + 8*uintptr(cap(l))}
}

// R4: the lists of what SigOf answers share no memory, not with one another, not with the module's, and not with another answer's.
func TestR4SigOfAnswersListsOfItsOwn(t *testing.T) {
	m := copied(world(), 9, false)
	for n := range worldFuncs {
		var all []span
		for range 3 {
			s, _ := typing.SigOf(m, n)
			all = append(all, spanOf(s.In), spanOf(s.Out))
		}
		for _, s := range m.Types {
			all = append(all, spanOf(s.In), spanOf(s.Out))
		}
		all = slices.DeleteFunc(all, func(s span) bool { return s.from == s.to })
		slices.SortFunc(all, func(a, b span) int { return int(a.from) - int(b.from) })
		for i := 1; i < len(all); i++ {
			if all[i].from < all[i-1].to {
				t.Error("two lists share memory, with an answer of SigOf of", n)
			}
		}
	}
}

// R4: what SigOf and Find answer may be written over, and so may the module.
func TestR4AnswersAreTheCallers(t *testing.T) {
	m := world()
	m.Exports = []api.Export{{Name: "a", N: 4}, {Name: "b", Kind: 3, N: 2}}
	before := clone(m)
	for n, text := range worldSigs() {
		first, _ := typing.SigOf(m, n)
		second, _ := typing.SigOf(m, n)
		spoil(&first)
		first.In, first.Out = append(first.In, 1, 2), append(first.Out, 3, 4)
		if !equal(m, before) || !equal(second, sig(text)) {
			t.Error("the module, or another answer, turned with an answer of SigOf of", n)
		}
		third, ok := typing.SigOf(m, n)
		if !ok || !equal(third, sig(text)) {
			t.Error("SigOf, behind an answer that was written over, of", n)
		}
		handed := clone(m)
		fourth, _ := typing.SigOf(handed, n)
		spoil(&handed)
		if !equal(fourth, sig(text)) {
			t.Error("an answer turned with the module that was handed in, of", n)
		}
	}
	e, _ := typing.Find(m, "b")
	spoil(&e)
	if again, ok := typing.Find(m, "b"); !ok || again != (api.Export{Name: "b", Kind: 3, N: 2}) || !equal(m, before) {
		t.Error("Find, behind an answer that was written over:", again)
	}
	handed := clone(m)
	e, _ = typing.Find(handed, "a")
	spoil(&handed)
	if e != (api.Export{Name: "a", N: 4}) {
		t.Error("an answer of Find turned with the module")
	}
}

// R4: what follows one answer is not seen behind another one.
func TestR4Append(t *testing.T) {
	m := world()
	a, _ := typing.SigOf(m, 4)
	b, _ := typing.SigOf(m, 4)
	x, y := append(a.In, 1, 2, 3), append(b.In, 4, 5, 6)
	z := append(a.Out, 7, 8, 9)
	if x[2] != 1 || y[2] != 4 || z[2] != 7 || !equal(b, sig("li>il")) {
		t.Error("what follows one answer is seen behind another one")
	}
}

// R3, R7: an answer hangs on the arguments alone, whatever was asked between.
func TestR3Again(t *testing.T) {
	good, bad := bodyOf(">i", "41 41 6a"), bodyOf(">i", "41 42 6a")
	for range 3 {
		passes(t, "asked again", good)
		checks(t, "asked again", bad, api.Fault{Why: api.ErrType, At: under, Op: 2})
		checks(t, "asked again", api.Module{Pages: -2}, whole(api.ErrForm))
		if typing.Count(good.Funcs[under].Body) != 3 {
			t.Error("Count, asked again")
		}
	}
}

// R6: a list that is nil and an empty one are the same.
func TestR6NoListIsAnEmptyOne(t *testing.T) {
	none := api.Module{
		Types: []api.Sig{{}}, Funcs: []api.Func{{Body: []api.Instr{{Op: 2}, {Op: 0x41}, {Op: 4, HasElse: true}}}}, Pages: -1, Start: 0,
	}
	empty := api.Sig{In: []int{}, Out: []int{}}
	zero := api.Instr{Op: 2, Type: empty, Body: []api.Instr{}, Else: []api.Instr{}, Targets: []int{}}
	number, alternative := zero, zero
	number.Op, alternative.Op, alternative.HasElse = 0x41, 4, true
	full := api.Module{
		Types: []api.Sig{empty}, Imports: []api.Import{}, Funcs: []api.Func{{Locals: []int{}, Body: []api.Instr{zero, number, alternative}}},
		Globals: []api.Global{}, Exports: []api.Export{}, Datas: []api.Data{}, Pages: -1, Start: 0,
	}
	passes(t, "lists that are nil", none)
	passes(t, "empty lists", full)
	for _, m := range []api.Module{none, full} {
		if s, ok := typing.SigOf(m, 0); !ok || len(s.In)+len(s.Out) > 0 {
			t.Error("SigOf:", s, ok)
		}
		if _, ok := typing.Find(m, ""); ok {
			t.Error("Find in no Exports")
		}
		if n := typing.Count(m.Funcs[0].Body); n != 3 {
			t.Error("Count:", n)
		}
	}
	if typing.Count(nil) != 0 || typing.Count([]api.Instr{}) != 0 {
		t.Error("Count of nothing")
	}
}
