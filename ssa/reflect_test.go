package ssa_test

import (
	"bytes"
	"reflect"
)

// alike tells whether two values are the same, where a list that is nil and an empty one are.
func alike(a, b reflect.Value) bool {
	switch a.Kind() {
	case reflect.Slice:
		if a.Len() != b.Len() {
			return false
		}
		if a.Type().Elem().Kind() == reflect.Uint8 {
			return bytes.Equal(a.Bytes(), b.Bytes())
		}
		for i := range a.Len() {
			if !alike(a.Index(i), b.Index(i)) {
				return false
			}
		}
		return true
	case reflect.Struct:
		for i := range a.NumField() {
			if !alike(a.Field(i), b.Field(i)) {
				return false
			}
		}
		return true
	}
	return a.Equal(b)
}

// equal tells whether two values of one type are the same.
func equal[T any](a, b T) bool { return alike(reflect.ValueOf(a), reflect.ValueOf(b)) }

// copied is a value in memory of its own. Lists get so much room behind their end; with behind, they have what stands in the room of x's, too.
func copied[T any](x T, room int, behind bool) T {
	var out T
	fill(reflect.ValueOf(&out).Elem(), reflect.ValueOf(x), room, behind)
	return out
}

func clone[T any](x T) T { return copied(x, 0, false) }

// fill makes to a copy of from.
func fill(to, from reflect.Value, room int, behind bool) {
	switch from.Kind() {
	case reflect.Slice:
		if behind {
			from = from.Slice(0, from.Cap())
		}
		if from.Len()+room == 0 {
			return
		}
		to.Set(reflect.MakeSlice(from.Type(), from.Len(), from.Len()+room))
		if from.Type().Elem().Kind() == reflect.Uint8 {
			reflect.Copy(to, from)
			return
		}
		for i := range from.Len() {
			fill(to.Index(i), from.Index(i), room, behind)
		}
	case reflect.Struct:
		for i := range from.NumField() {
			fill(to.Field(i), from.Field(i), room, behind)
		}
	default:
		to.Set(from)
	}
}

// overwrite turns all that a value's lists can reach, their room behind their end too.
func overwrite(v reflect.Value) {
	switch v.Kind() {
	case reflect.Slice:
		all := v.Slice(0, v.Cap())
		for i := range all.Len() {
			overwrite(all.Index(i))
		}
	case reflect.Struct:
		for i := range v.NumField() {
			overwrite(v.Field(i))
		}
	case reflect.Int:
		v.SetInt(^v.Int())
	case reflect.Uint8, reflect.Uint64:
		v.SetUint(^v.Uint())
	case reflect.Bool:
		v.SetBool(!v.Bool())
	case reflect.String:
		v.SetString("turned")
	}
}

// spoil overwrites what x's lists hold.
func spoil[T any](x *T) { overwrite(reflect.ValueOf(x).Elem()) }
