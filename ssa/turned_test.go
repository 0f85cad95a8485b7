package ssa_test

import "reflect"

// allTurned calls f with each value that parts from x in one thing: a number, a truth, a text, or what is in a list. It must not keep what it is handed.
func allTurned[T any](x T, f func(v T)) {
	c := clone(x)
	turn(reflect.ValueOf(&c).Elem(), func() { f(c) })
}

// turn changes each part of v in turn, calls f, and puts it back.
func turn(v reflect.Value, f func()) {
	old := reflect.New(v.Type()).Elem()
	old.Set(v)
	try := func(x any) {
		v.Set(reflect.ValueOf(x).Convert(v.Type()))
		f()
		v.Set(old)
	}
	switch v.Kind() {
	case reflect.Struct:
		for i := range v.NumField() {
			turn(v.Field(i), f)
		}
	case reflect.Slice:
		turnList(v, old, f)
	case reflect.Bool:
		try(!old.Bool())
	case reflect.Int:
		for _, n := range []int64{1, -1, 2, -2, 256, 1 << 32, -1 << 63, 1<<63 - 1} {
			try(old.Int() + n)
		}
	case reflect.Uint8:
		try(old.Uint() ^ 0x80)
	case reflect.Uint64:
		for _, n := range []uint64{1, 2, 1<<64 - 1, 1 << 7, 1 << 8, 1 << 32, 1 << 63} {
			try(old.Uint() + n)
		}
	case reflect.String:
		try(old.String() + "a")
		try("\x1f")
	}
}

// turnList does so with a list: it is shorter, longer, has two elements changed with each other, and each of them turns.
func turnList(v, old reflect.Value, f func()) {
	n := old.Len()
	if n > 0 {
		v.Set(old.Slice(0, n-1))
		f()
		v.Set(old.Slice(1, n))
		f()
	}
	more := reflect.AppendSlice(reflect.MakeSlice(v.Type(), 0, n+1), old)
	v.Set(reflect.Append(more, reflect.Zero(v.Type().Elem())))
	f()
	for i := range n {
		v.Set(reflect.Append(more, old.Index(i)))
		f()
		if i > 0 {
			swapped := reflect.AppendSlice(reflect.MakeSlice(v.Type(), 0, n), old)
			swapped.Index(i).Set(old.Index(i - 1))
			swapped.Index(i - 1).Set(old.Index(i))
			v.Set(swapped)
			f()
		}
	}
	v.Set(old)
	for i := range n {
		turn(v.Index(i), f)
	}
}
