package wasm_test

import (
	"bytes"
	"reflect"
	"strconv"
	"strings"
	"testing"

	"bellcrank/api"
	"bellcrank/wasm"
)

// The calls have just these types.
var (
	_ func([]byte) (api.Module, api.Fault) = wasm.Decode
	_ func(api.Module) ([]byte, api.Errno) = wasm.Encode
	_ func(api.Module, api.Module) bool    = wasm.Same
	_ func(api.Module) bool                = wasm.Few
)

// head is what all modules begin with.
func head() []byte { return []byte{0x00, 0x61, 0x73, 0x6d, 0x01, 0x00, 0x00, 0x00} }

// empty is the module without anything.
func empty() api.Module { return api.Module{Pages: -1, Start: -1} }

// join lays bytes one behind the other into memory of their own.
func join(parts ...[]byte) []byte { return bytes.Join(parts, nil) }

// u is a number without a sign, in as few groups as can be: its digits to the base 128.
func u(n uint64) []byte {
	var out []byte
	for n >= 128 {
		out = append(out, byte(n%128)+128)
		n /= 128
	}
	return append(out, byte(n))
}

// s is a number with a sign, likewise: digits from 0 to 127, till the rest is one from -64 to 63.
func s(n int64) []byte {
	var out []byte
	for n < -64 || n > 63 {
		digit := n % 128
		if digit < 0 {
			digit += 128
		}
		out = append(out, byte(digit)+128)
		n = (n - digit) / 128
	}
	if n < 0 {
		n += 128
	}
	return append(out, byte(n))
}

// wide is the same number in more groups.
func wide(b []byte, more int, signed bool) []byte {
	out := bytes.Clone(b)
	fill := byte(0)
	if last := out[len(out)-1]; signed && last >= 64 {
		fill = 127
	}
	for range more {
		out[len(out)-1] += 128
		out = append(out, fill)
	}
	return out
}

// sec is a section.
func sec(id byte, parts ...[]byte) []byte {
	all := join(parts...)
	return join([]byte{id}, u(uint64(len(all))), all)
}

// mod is a module of these sections.
func mod(sections ...[]byte) []byte { return join(head(), join(sections...)) }

// hexed reads bytes that stand in hexadecimal. An exclamation mark stands ahead of the byte that is meant, whose place is told.
func hexed(text string) (b []byte, mark int) {
	for _, word := range strings.Fields(text) {
		if strings.HasPrefix(word, "!") {
			mark = len(b)
			word = word[1:]
		}
		if word == "" {
			continue
		}
		n, err := strconv.ParseUint(word, 16, 8)
		if err != nil {
			panic(err)
		}
		b = append(b, byte(n))
	}
	return b, mark
}

// bytesOf reads bytes that stand in hexadecimal.
func bytesOf(text string) []byte {
	b, _ := hexed(text)
	return b
}

// repeat is a text so many times, each with a blank behind it.
func repeat(text string, count int) string { return strings.Repeat(text+" ", count) }

// alike tells whether two values are the same, where a list that is nil and an empty one are.
func alike(a, b reflect.Value) bool {
	switch a.Kind() {
	case reflect.Slice:
		if a.Len() != b.Len() {
			return false
		}
		for i := range a.Len() {
			if !alike(a.Index(i), b.Index(i)) {
				return false
			}
		}
		return true
	case reflect.Struct:
		for i := range a.NumField() {
			if !alike(a.Field(i), b.Field(i)) {
				return false
			}
		}
		return true
	}
	return a.Equal(b)
}

// equal tells whether two values of one type are the same.
func equal[T any](a, b T) bool { return alike(reflect.ValueOf(a), reflect.ValueOf(b)) }

// clone is a value in memory of its own.
func clone[T any](x T) T {
	var out T
	fill(reflect.ValueOf(&out).Elem(), reflect.ValueOf(x), 0, false)
	return out
}

// fill makes to a copy of from. Lists get so much room behind their end; with behind, they get what stands in the room of from's.
func fill(to, from reflect.Value, room int, behind bool) {
	switch from.Kind() {
	case reflect.Slice:
		if behind {
			from = from.Slice(0, from.Cap())
		}
		if from.Len()+room == 0 {
			return
		}
		to.Set(reflect.MakeSlice(from.Type(), from.Len(), from.Len()+room))
		for i := range from.Len() {
			fill(to.Index(i), from.Index(i), room, behind)
		}
	case reflect.Struct:
		for i := range from.NumField() {
			fill(to.Field(i), from.Field(i), room, behind)
		}
	default:
		to.Set(from)
	}
}

// decodes holds Decode of b against a module.
func decodes(t *testing.T, what string, b []byte, want api.Module) {
	t.Helper()
	before := bytes.Clone(b)
	m, f := wasm.Decode(b)
	if f != (api.Fault{}) || !equal(m, want) {
		t.Errorf("%s: Decode(%x): %v %v, not %v", what, b, m, f, want)
	}
	if !bytes.Equal(b, before) {
		t.Errorf("%s: Decode turned %x into %x", what, before, b)
	}
}

// faults holds Decode of b against a fault.
func faults(t *testing.T, what string, b []byte, why api.Errno, at int) {
	t.Helper()
	before := bytes.Clone(b)
	m, f := wasm.Decode(b)
	if f != (api.Fault{Why: why, At: at}) || !equal(m, api.Module{}) {
		t.Errorf("%s: Decode(%x): %v %v, not {%d %d 0}", what, b, m, f, why, at)
	}
	if !bytes.Equal(b, before) {
		t.Errorf("%s: Decode turned %x into %x", what, before, b)
	}
}

// encodes holds Encode of m against bytes.
func encodes(t *testing.T, what string, m api.Module, want []byte) {
	t.Helper()
	before := clone(m)
	b, why := wasm.Encode(m)
	if why != api.OK || !bytes.Equal(b, want) {
		t.Errorf("%s: Encode(%v): %x %v, not %x", what, m, b, why, want)
	}
	if !equal(m, before) {
		t.Errorf("%s: Encode turned %v into %v", what, before, m)
	}
}

// refuses holds Encode of m against ErrForm.
func refuses(t *testing.T, what string, m api.Module) {
	t.Helper()
	if b, why := wasm.Encode(m); why != api.ErrForm || len(b) != 0 {
		t.Errorf("%s: Encode: %x %v", what, b, why)
	}
}
