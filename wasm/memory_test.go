package wasm_test

import (
	"bytes"
	"reflect"
	"slices"
	"testing"

	"bellcrank/api"
	"bellcrank/wasm"
)

// span is the memory that a list may be written in, its room behind its end too.
type span struct {
	from, to uintptr
	what     string
}

// spans are those of all lists of a value.
func spans(v reflect.Value, what string) (l []span) {
	switch v.Kind() {
	case reflect.Slice:
		if size := uintptr(v.Cap()) * v.Type().Elem().Size(); size > 0 {
			l = append(l, span{v.Pointer(), v.Pointer() + size, what})
		}
		for i := range v.Len() {
			l = append(l, spans(v.Index(i), what+"[]")...)
		}
	case reflect.Struct:
		for i := range v.NumField() {
			l = append(l, spans(v.Field(i), what+"."+v.Type().Field(i).Name)...)
		}
	}
	return l
}

// apart tells of two lists that share memory.
func apart(t *testing.T, what string, l []span) {
	t.Helper()
	slices.SortFunc(l, func(a, b span) int { return int(a.from) - int(b.from) })
	for i := 1; i < len(l); i++ {
		if l[i].from < l[i-1].to {
			t.Errorf("%s: %s and %s share memory", what, l[i-1].what, l[i].what)
		}
	}
}

// overwrite turns all that a value's lists can reach, their room behind their end too.
func overwrite(v reflect.Value) {
	switch v.Kind() {
	case reflect.Slice:
		all := v.Slice(0, v.Cap())
		for i := range all.Len() {
			overwrite(all.Index(i))
		}
	case reflect.Struct:
		for i := range v.NumField() {
			overwrite(v.Field(i))
		}
	case reflect.Int:
		v.SetInt(^v.Int())
	case reflect.Uint8, reflect.Uint64:
		v.SetUint(^v.Uint())
	case reflect.Bool:
		v.SetBool(!v.Bool())
	case reflect.String:
		v.SetString("turned")
	}
}

// spoil overwrites what x's lists hold.
func spoil[T any](x *T) { overwrite(reflect.ValueOf(x).Elem()) }

// roomy is a module whose lists have room behind their end.
func roomy(m api.Module) api.Module {
	var out api.Module
	fill(reflect.ValueOf(&out).Elem(), reflect.ValueOf(m), 9, false)
	return out
}

// whole is a module whose lists have what stands in the room behind their end, too.
func whole(m api.Module) api.Module {
	var out api.Module
	fill(reflect.ValueOf(&out).Elem(), reflect.ValueOf(m), 0, true)
	return out
}

// R4: the lists of a module that was read share no memory, not with one another, not with the bytes, and not with another reading's.
func TestR4DecodeMakesListsOfItsOwn(t *testing.T) {
	for _, m := range modules(40) {
		for _, f := range append(longer(), shortest()) {
			b := f.write(m)
			first, _ := wasm.Decode(b)
			second, _ := wasm.Decode(b)
			l := append(spans(reflect.ValueOf(first), "first"), spans(reflect.ValueOf(second), "second")...)
			apart(t, "Decode", append(l, spans(reflect.ValueOf(b), "bytes")...))
		}
	}
}

// R4: what was handed to Decode may be written over, and what it answered too.
func TestR4Decode(t *testing.T) {
	for _, m := range modules(40) {
		b := form{block: true}.write(m)
		first, _ := wasm.Decode(b)
		second, _ := wasm.Decode(b)
		before := bytes.Clone(b)
		spoil(&first)
		if !bytes.Equal(b, before) || !equal(second, m) {
			t.Error("the bytes, or another answer, turned with an answer")
		}
		decodes(t, "behind an answer that was written over", b, m)
		spoil(&b)
		if !equal(second, m) {
			t.Error("an answer turned with the bytes that were handed in")
		}
	}
}

// R4: Decode writes nothing behind the end of its bytes, and reads nothing there.
func TestR4DecodeStaysWithin(t *testing.T) {
	all := shortest().write(rich())
	for at := range all {
		have, f := wasm.Decode(all[:at])
		want, fault := wasm.Decode(bytes.Clone(all[:at]))
		if f != fault || !equal(have, want) {
			t.Errorf("Decode of %d bytes with more behind: %v, not %v", at, f, fault)
		}
	}
	if !bytes.Equal(all, shortest().write(rich())) {
		t.Error("Decode wrote behind the end")
	}
}

// R4: Encode, Same and Few write nothing into a module, its lists' room too, and keep nothing of it.
func TestR4Encode(t *testing.T) {
	for _, m := range modules(40) {
		handed := roomy(m)
		before := whole(handed)
		b, _ := wasm.Encode(handed)
		want := bytes.Clone(b)
		if !wasm.Same(handed, m) || !wasm.Few(handed) || !equal(whole(handed), before) {
			t.Error("a call turned what it was handed")
		}
		apart(t, "Encode", append(spans(reflect.ValueOf(handed), "module"), spans(reflect.ValueOf(b), "bytes")...))
		second, _ := wasm.Encode(handed)
		spoil(&b)
		if !equal(whole(handed), before) || !bytes.Equal(second, want) {
			t.Error("the module, or another answer, turned with an answer")
		}
		encodes(t, "behind an answer that was written over", handed, want)
		spoil(&handed)
		if !bytes.Equal(second, want) {
			t.Error("an answer turned with the module that was handed in")
		}
	}
}

// R4: what goes behind one answer is not seen in another one.
func TestR4Append(t *testing.T) {
	m := rich()
	a, _ := wasm.Encode(m)
	b, _ := wasm.Encode(m)
	x, y := append(a, 1, 2, 3), append(b, 4, 5, 6)
	if x[len(a)] != 1 || y[len(b)] != 4 {
		t.Error("what goes behind one answer is seen behind another one")
	}
	first, _ := wasm.Decode(a)
	for i := range first.Types {
		first.Types[i].In = append(first.Types[i].In, 5)
		first.Types[i].Out = append(first.Types[i].Out, 6)
	}
	if !equal(first.Funcs, m.Funcs) {
		t.Error("what goes behind a type is seen in a body")
	}
}

// R3, R7: an answer hangs on the arguments alone, whatever was asked between, also behind faults.
func TestR3Again(t *testing.T) {
	m := rich()
	b := shortest().write(m)
	for range 3 {
		decodes(t, "asked again", b, m)
		faults(t, "a fault between", b[:len(b)-1], api.ErrEnd, len(b)-1)
		faults(t, "a fault between", bytes.Repeat([]byte{1}, 9), api.ErrMagic, 0)
		encodes(t, "asked again", m, b)
		refuses(t, "refused between", api.Module{Start: -2})
		if !wasm.Few(m) || !wasm.Same(m, m) || wasm.Same(m, empty()) {
			t.Error("Few or Same, asked again")
		}
	}
}
