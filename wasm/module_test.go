package wasm_test

import (
	"reflect"
	"strconv"

	"bellcrank/api"
)

// rich is a module that has something of all that a module may have.
func rich() api.Module {
	type list = []api.Instr
	return api.Module{
		Types:   []api.Sig{{}, {In: []int{0x7f, 0x7e}, Out: []int{0x7e}}, {In: []int{0x7f}}, {Out: []int{0x7e, 0x7f}}, {Out: []int{0x7f}}, {In: []int{0x7f}}},
		Imports: []api.Import{{Mod: "env", Name: "tell", Type: 2}, {Mod: "", Name: "~ ~", Type: 4}},
		Funcs: []api.Func{
			{Type: 1, Locals: []int{0x7f, 0x7f, 0x7e, 0x7f}, Body: list{
				{Op: 0x20, N: 1}, {Op: 0x21, N: 300}, {Op: 0x41, N: 1<<32 - 5}, {Op: 0x42, N: 1<<64 - 5}, {Op: 0x6a}, {Op: 0x1a},
				{Op: 0x02, Type: api.Sig{In: []int{0x7f}}, Body: list{{Op: 0x1b}, {Op: 0x0d, N: 1}, {Op: 0x0e, Targets: []int{0, 1, 200}}}},
				{Op: 0x03, Type: api.Sig{Out: []int{0x7e}}, Body: list{{Op: 0x00}, {Op: 0x01}}},
			}},
			{Type: 0},
			{Type: 4, Body: list{
				{Op: 0x04, Type: api.Sig{Out: []int{0x7e, 0x7f}}, HasElse: true,
					Body: list{{Op: 0x28, M: 2, N: 7}, {Op: 0x02, Body: list{{Op: 0x0c, N: 1}}}},
					Else: list{{Op: 0x37, M: 3, N: 1<<32 - 1}, {Op: 0x3f}, {Op: 0x40}, {Op: 0x04, HasElse: true}}},
				{Op: 0x04, Body: list{{Op: 0x10, N: 2}}}, {Op: 0x0f}, {Op: 0x23, N: 0}, {Op: 0x24, N: 1}, {Op: 0xa7},
			}},
		},
		Pages:   2,
		Most:    5,
		Globals: []api.Global{{Type: 0x7f, N: 1<<32 - 1}, {Type: 0x7e, Mut: true, N: 1 << 63}, {Type: 0x7f, Mut: true, N: 8}},
		Exports: []api.Export{{Name: "run", Kind: 0, N: 2}, {Name: "m", Kind: 2}, {Name: "g", Kind: 3, N: 700}},
		Start:   3,
		Datas:   []api.Data{{At: 1<<32 - 1, Bytes: []byte{1, 0, 255}}, {At: 9}},
	}
}

// turned calls f with each module that parts from m in one field: a number, a truth, a text, or the length of a list. It must not keep what it is handed.
func turned(m api.Module, f func(where string, v api.Module)) {
	c := clone(m)
	turn(reflect.ValueOf(&c).Elem(), "", func(where string) { f(where, c) })
}

// turn changes each part of v in turn, calls f, and puts it back.
func turn(v reflect.Value, where string, f func(where string)) {
	old := reflect.New(v.Type()).Elem()
	old.Set(v)
	try := func(what string, x any) {
		v.Set(reflect.ValueOf(x).Convert(v.Type()))
		f(where + " " + what)
		v.Set(old)
	}
	switch v.Kind() {
	case reflect.Struct:
		for i := range v.NumField() {
			turn(v.Field(i), where+"."+v.Type().Field(i).Name, f)
		}
	case reflect.Slice:
		turnList(v, old, where, f)
	case reflect.Bool:
		try("the other way", !old.Bool())
	case reflect.Int:
		for _, n := range []int64{1, -1, 256, 1 << 32, -1 << 63} {
			try("other by "+strconv.FormatInt(n, 10), old.Int()+n)
		}
	case reflect.Uint64, reflect.Uint8:
		for _, n := range []uint64{1, 1 << 7, 1 << 8, 1 << 32, 1 << 63} {
			if v.Kind() == reflect.Uint64 || n < 256 {
				try("other by "+strconv.FormatUint(n, 10), old.Uint()+n)
			}
		}
	case reflect.String:
		try("longer", old.String()+"x")
		if text := old.String(); text != "" {
			try("shorter", text[1:])
			try("of another byte", text[1:]+"\x1f")
			try("of another text", text[1:]+"!")
		}
	}
}

// turnList does so with a list: it is one shorter, one longer, and each of its parts turns.
func turnList(v, old reflect.Value, where string, f func(where string)) {
	if n := old.Len(); n > 0 {
		v.Set(old.Slice(0, n-1))
		f(where + " without the last one")
		v.Set(old.Slice(1, n))
		f(where + " without the first one")
		v.Set(old)
	}
	more := reflect.MakeSlice(v.Type(), 0, old.Len()+1)
	more = reflect.Append(reflect.AppendSlice(more, old), reflect.Zero(v.Type().Elem()))
	v.Set(more)
	f(where + " with one more")
	v.Set(old)
	for i := range old.Len() {
		turn(v.Index(i), where+"["+strconv.Itoa(i)+"]", f)
	}
}

// dice make numbers that look like chance, and are the same ones each time.
type dice uint64

// roll is one of the numbers below n.
func (d *dice) roll(n int) int {
	*d = *d*6364136223846793005 + 1442695040888963407
	return int(uint64(*d)>>33) % n
}

// number is one of so many bits, small ones more often than others.
func (d *dice) number(bits int) uint64 {
	n := uint64(d.roll(1<<31))<<33 ^ uint64(d.roll(1<<31))<<11 ^ uint64(d.roll(1<<31))
	return n << (64 - bits) >> (64 - bits) >> d.roll(bits)
}

func (d *dice) kind() int { return 0x7e + d.roll(2) }

func (d *dice) kinds(most int) []int {
	var l []int
	for range d.roll(most + 1) {
		l = append(l, d.kind())
	}
	return l
}

func (d *dice) name() string {
	var text []byte
	for range d.roll(5) {
		text = append(text, byte(32+d.roll(95)))
	}
	return string(text)
}

// module is one that some bytes are.
func (d *dice) module() api.Module {
	m := empty()
	for range d.roll(6) {
		m.Types = append(m.Types, api.Sig{In: d.kinds(3), Out: d.kinds(2)})
	}
	for range d.roll(3) {
		m.Imports = append(m.Imports, api.Import{Mod: d.name(), Name: d.name(), Type: int(d.number(32))})
	}
	for range d.roll(4) {
		m.Funcs = append(m.Funcs, api.Func{Type: int(d.number(32)), Locals: d.kinds(7), Body: d.body(m.Types, 4)})
	}
	if d.roll(2) == 0 {
		m.Pages = d.roll(17)
		m.Most = m.Pages + d.roll(17-m.Pages)
	}
	for range d.roll(4) {
		t := d.kind()
		m.Globals = append(m.Globals, api.Global{Type: t, Mut: d.roll(2) == 0, N: d.number(32 + 32*(0x7f-t))})
	}
	for range d.roll(4) {
		m.Exports = append(m.Exports, api.Export{Name: d.name(), Kind: []int{0, 2, 3}[d.roll(3)], N: int(d.number(32))})
	}
	if d.roll(2) == 0 {
		m.Start = int(d.number(32))
	}
	for range d.roll(3) {
		b := make([]byte, d.roll(6))
		for i := range b {
			b[i] = byte(d.roll(256))
		}
		m.Datas = append(m.Datas, api.Data{At: int(d.number(32)), Bytes: b})
	}
	return m
}

func (d *dice) body(types []api.Sig, depth int) []api.Instr {
	var l []api.Instr
	for range d.roll(7) {
		l = append(l, d.operator(types, depth))
	}
	return l
}

func (d *dice) operator(types []api.Sig, depth int) api.Instr {
	pick := func(text string) int {
		b := bytesOf(text)
		return int(b[d.roll(len(b))])
	}
	switch d.roll(9) {
	case 0:
		return in(pick(plainBytes))
	case 1, 2:
		if depth == 0 {
			return in(0x01)
		}
		x := api.Instr{Op: pick(blockBytes), Type: d.blockType(types), Body: d.body(types, depth-1)}
		if x.Op == 4 && d.roll(2) == 0 {
			x.HasElse, x.Else = true, d.body(types, depth-1)
		}
		return x
	case 3:
		return api.Instr{Op: pick(numberBytes), N: d.number(32)}
	case 4:
		x := api.Instr{Op: 0x0e}
		for range 1 + d.roll(4) {
			x.Targets = append(x.Targets, int(d.number(32)))
		}
		return x
	case 5:
		op := pick(accessBytes)
		return api.Instr{Op: op, M: uint64(d.roll(wide2(op) + 1)), N: d.number(32)}
	case 6:
		return in(pick(zeroBytes))
	case 7:
		bits := 32 + 32*d.roll(2)
		return api.Instr{Op: 0x40 + bits/32, N: d.number(bits)}
	}
	for {
		if c := d.roll(256); isNumber(c) {
			return in(c)
		}
	}
}

func (d *dice) blockType(types []api.Sig) api.Sig {
	switch n := d.roll(len(types) + 2); n {
	case 0:
		return api.Sig{}
	case 1:
		return api.Sig{Out: []int{d.kind()}}
	default:
		return clone(types[n-2])
	}
}
