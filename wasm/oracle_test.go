package wasm_test

import (
	"slices"

	"bellcrank/api"
)

// look reads a module as the document's words say, once more and in another way: a fault is kept and the reading goes on with zeros; a body's blocks stand in a list. Unclear is set where two of the document's words could be meant.
type look struct {
	b       []byte
	at, end int
	fault   api.Fault
	unclear bool
	m       api.Module
}

func (k *look) fail(why api.Errno, at int) {
	if k.fault.Why == api.OK {
		k.fault = api.Fault{Why: why, At: at}
	}
}

func (k *look) failed() bool { return k.fault.Why != api.OK }

func (k *look) next() int {
	if k.failed() {
		return 0
	}
	if k.at >= k.end {
		k.fail(api.ErrEnd, k.end)
		return 0
	}
	k.at++
	return int(k.b[k.at-1])
}

// digits reads groups up to the last one that may be, and answers them without their marks.
func (k *look) digits(bits int, signed bool) []int {
	var l []int
	most := (bits + 6) / 7
	for {
		at := k.at
		c := k.next()
		l = append(l, c%128)
		if len(l) == most {
			room := bits - 7*(most-1)
			low := 1 << room
			good := c < low
			if signed {
				good = c < low/2 || c < 128 && c >= 128-low/2
			}
			if !good {
				k.fail(api.ErrLeb, at)
			}
			return l
		}
		if c < 128 {
			return l
		}
	}
}

func (k *look) u() int {
	n := 0
	for i, digit := range k.digits(32, false) {
		n += digit << (7 * i)
	}
	return k.orZero(n)
}

func (k *look) s(bits int) int64 {
	l := k.digits(bits, true)
	n := int64(0)
	for i, digit := range slices.Backward(l) {
		n = n*128 + int64(digit)
		if i == len(l)-1 && digit >= 64 {
			n -= 128
		}
	}
	return int64(k.orZero(int(n)))
}

func (k *look) orZero(n int) int {
	if k.failed() {
		return 0
	}
	return n
}

// upTo reads a number that may be so much.
func (k *look) upTo(most int) int {
	at := k.at
	n := k.u()
	if n > most {
		k.fail(api.ErrMany, at)
	}
	return k.orZero(n)
}

// among reads a byte that is good, or float, or neither.
func (k *look) among(good, float string) int {
	at := k.at
	c := k.next()
	switch {
	case within(c, good):
	case within(c, float):
		k.fail(api.ErrFloat, at)
	default:
		k.fail(api.ErrForm, at)
	}
	return k.orZero(c)
}

func (k *look) kind() int { return k.among("7f 7e", "7d 7c") }

func (k *look) name() string {
	count := k.upTo(32)
	var text []byte
	for range count {
		at := k.at
		c := k.next()
		if c < 32 || c > 126 {
			k.unclear = k.unclear || !k.failed() && at+count-len(text) > k.end
			k.fail(api.ErrName, at)
		}
		text = append(text, byte(c))
	}
	return string(text)
}

func (k *look) kinds() []int {
	var l []int
	for range k.upTo(8) {
		l = append(l, k.kind())
	}
	return l
}

// inner reads a length, and what is within it.
func (k *look) inner(read func()) {
	size := k.u()
	if k.failed() {
		return
	}
	if k.at+size > k.end {
		k.fail(api.ErrEnd, k.end)
		return
	}
	outer, end := k.end, k.at+size
	k.end = end
	read()
	if k.at < end {
		k.fail(api.ErrForm, k.at)
	}
	k.end = outer
}

// decode answers what Decode must, and whether the document is clear on it.
func decode(b []byte) (api.Module, api.Fault, bool) {
	if len(b) > 1<<14 {
		return api.Module{}, api.Fault{Why: api.ErrMany}, true
	}
	k := &look{b: b, end: len(b), m: empty()}
	for i, c := range head() {
		if k.next() != int(c) {
			k.fail(api.ErrMagic, i)
		}
	}
	var seen []int
	for !k.failed() && k.at < k.end {
		at := k.at
		id := k.next()
		if id == 4 || id == 9 {
			k.fail(api.ErrFloat, at)
		}
		if id > 11 || id > 0 && len(seen) > 0 && id <= slices.Max(seen) {
			k.fail(api.ErrForm, at)
		}
		if id > 0 {
			seen = append(seen, id)
		}
		k.inner(func() { k.section(id) })
	}
	if len(k.m.Funcs) > 0 && !slices.Contains(seen, 10) {
		k.fail(api.ErrForm, len(b))
	}
	if k.failed() {
		return api.Module{}, k.fault, !k.unclear
	}
	return k.m, api.Fault{}, !k.unclear
}

func (k *look) section(id int) {
	m := &k.m
	switch id {
	case 0:
		k.at = k.end
	case 1:
		for range k.upTo(32) {
			k.among("60", "")
			m.Types = append(m.Types, api.Sig{In: k.kinds(), Out: k.kinds()})
		}
	case 2:
		for range k.upTo(32) {
			mod, name := k.name(), k.name()
			k.among("00", "01 02 03")
			m.Imports = append(m.Imports, api.Import{Mod: mod, Name: name, Type: k.u()})
		}
	case 3:
		for range k.upTo(32 - len(m.Imports)) {
			m.Funcs = append(m.Funcs, api.Func{Type: k.u()})
		}
	case 5:
		k.memory()
	case 6:
		for range k.upTo(32) {
			k.global()
		}
	case 7:
		for range k.upTo(32) {
			name := k.name()
			kind := k.among("00 02 03", "01")
			m.Exports = append(m.Exports, api.Export{Name: name, Kind: kind, N: k.u()})
		}
	case 8:
		m.Start = k.u()
	case 10:
		at := k.at
		if k.u() != len(m.Funcs) {
			k.fail(api.ErrForm, at)
		}
		for i := range m.Funcs {
			k.inner(func() { k.function(&m.Funcs[i]) })
		}
	case 11:
		for range k.upTo(32) {
			k.data()
		}
	}
}

func (k *look) memory() {
	if k.upTo(1) == 0 {
		return
	}
	bounded := k.among("00 01", "") == 1
	k.m.Pages, k.m.Most = k.upTo(16), 16
	if bounded {
		at := k.at
		k.m.Most = k.upTo(16)
		if k.m.Most < k.m.Pages {
			k.fail(api.ErrForm, at)
		}
	}
}

func (k *look) global() {
	g := api.Global{Type: k.kind()}
	g.Mut = k.among("00 01", "") == 1
	at := k.at
	op := k.among("41 42", "")
	if op == 0x41 && g.Type == 0x7e || op == 0x42 && g.Type == 0x7f {
		k.fail(api.ErrType, at)
	}
	if op == 0x41 {
		g.N = uint64(k.s(32)) % (1 << 32)
	} else {
		g.N = uint64(k.s(64))
	}
	k.among("0b", "")
	k.m.Globals = append(k.m.Globals, g)
}

func (k *look) data() {
	at := k.at
	if k.u() != 0 {
		k.fail(api.ErrForm, at)
	}
	k.among("41", "")
	place := int(uint64(k.s(32)) % (1 << 32))
	k.among("0b", "")
	var b []byte
	for range k.upTo(4096) {
		b = append(b, byte(k.next()))
	}
	k.m.Datas = append(k.m.Datas, api.Data{At: place, Bytes: b})
}

func (k *look) function(f *api.Func) {
	for range k.upTo(32) {
		at := k.at
		count := k.u()
		if len(f.Locals)+count > 32 {
			k.fail(api.ErrMany, at)
		}
		kind := k.kind()
		for range k.orZero(count) {
			f.Locals = append(f.Locals, kind)
		}
	}
	f.Body = k.body()
}

// open is a block that is not at its end: its operator, and what stands in it so far.
type open struct {
	block api.Instr
	list  []api.Instr
}

func (k *look) body() []api.Instr {
	stack := []open{{}}
	for ops := 0; !k.failed(); {
		at := k.at
		c := k.next()
		top := &stack[len(stack)-1]
		if k.failed() {
			break
		}
		switch {
		case c == 0x0b && len(stack) == 1:
			return top.list
		case c == 0x0b:
			block := top.close()
			stack = stack[:len(stack)-1]
			under := &stack[len(stack)-1]
			under.list = append(under.list, block)
			continue
		case c == 0x05 && top.block.Op == 4 && !top.block.HasElse:
			top.block.Body, top.block.HasElse, top.list = top.list, true, nil
			continue
		case c == 0x05:
			k.unclear = k.unclear || ops == 512
			k.fail(api.ErrForm, at)
			continue
		}
		if ops++; ops > 512 || within(c, blockBytes) && len(stack) == 17 {
			k.fail(api.ErrMany, at)
		}
		x := k.operator(c, at)
		if within(c, blockBytes) {
			stack = append(stack, open{block: x})
			continue
		}
		top.list = append(top.list, x)
	}
	return nil
}

// close answers the block with what stands in it.
func (o open) close() api.Instr {
	if o.block.HasElse {
		o.block.Else = o.list
	} else {
		o.block.Body = o.list
	}
	return o.block
}

// operator reads what stands behind an operator's byte, of blocks their type.
func (k *look) operator(c, at int) api.Instr {
	x := api.Instr{Op: c}
	switch {
	case within(c, plainBytes) || isNumber(c):
	case within(c, blockBytes):
		x.Type = k.blockType()
	case within(c, numberBytes):
		x.N = uint64(k.u())
	case c == 0x0e:
		for range k.upTo(64) {
			x.Targets = append(x.Targets, k.u())
		}
		x.Targets = append(x.Targets, k.u())
	case within(c, accessBytes):
		place := k.at
		n := k.u()
		if n > wide2(c) {
			k.fail(api.ErrForm, place)
		}
		x.M, x.N = uint64(n), uint64(k.u())
	case within(c, zeroBytes):
		k.among("00", "")
	case c == 0x41:
		x.N = uint64(k.s(32)) % (1 << 32)
	case c == 0x42:
		x.N = uint64(k.s(64))
	case isFloat(c):
		k.fail(api.ErrFloat, at)
	default:
		k.fail(api.ErrForm, at)
	}
	return x
}

func (k *look) blockType() api.Sig {
	at := k.at
	if at < k.end && within(int(k.b[at]), "40 7f 7e 7d 7c") {
		switch c := k.next(); c {
		case 0x40:
			return api.Sig{}
		case 0x7f, 0x7e:
			return api.Sig{Out: []int{c}}
		}
		k.fail(api.ErrFloat, at)
		return api.Sig{}
	}
	n := k.s(64)
	if k.failed() || n < 0 || n >= int64(len(k.m.Types)) {
		k.fail(api.ErrIndex, at)
		return api.Sig{}
	}
	return clone(k.m.Types[n])
}
