package wasm_test

import (
	"bytes"
	"slices"
	"strings"
	"testing"

	"bellcrank/api"
	"bellcrank/wasm"
)

// ahead is what stands ahead of the bodies of so many functions: four types, and that the functions are of the first one.
func ahead(count int) []byte {
	return join(sec(1, bytesOf("04 60 00 00 60 01 7f 01 7e 60 00 02 7f 7e 60 00 01 7f")), sec(3, u(uint64(count)), make([]byte, count)))
}

// aheadModule is the module of that, with functions that have no bodies yet.
func aheadModule(count int) api.Module {
	m := empty()
	m.Types = []api.Sig{{}, {In: []int{0x7f}, Out: []int{0x7e}}, {Out: []int{0x7f, 0x7e}}, {Out: []int{0x7f}}}
	m.Funcs = make([]api.Func, count)
	return m
}

// body is how many bytes a body has, and these.
func body(parts ...[]byte) []byte {
	all := join(parts...)
	return join(u(uint64(len(all))), all)
}

// inBody is a module with one function, whose locals and operators stand in hexadecimal, and the place of the byte that is marked.
func inBody(text string) ([]byte, int) {
	has, mark := hexed(text)
	code := sec(10, u(1), body(has))
	b := mod(ahead(1), code)
	return join(b, sec(0, []byte{1, 2})), len(b) - len(has) + mark
}

// bodyDecodes holds the operators of a function without locals against a list.
func bodyDecodes(t *testing.T, text string, want ...api.Instr) {
	t.Helper()
	m := aheadModule(1)
	m.Funcs[0].Body = want
	b, _ := inBody("00 " + text + " 0b")
	if len(text) > 60 {
		text = text[:60] + "..."
	}
	decodes(t, text, b, m)
}

// bodyFaults holds a function without locals against a fault.
func bodyFaults(t *testing.T, why api.Errno, text string) {
	t.Helper()
	b, at := inBody("00 " + text)
	if len(text) > 60 {
		text = text[:60] + "..."
	}
	faults(t, text, b, why, at)
}

// in is an operator without anything.
func in(op int) api.Instr { return api.Instr{Op: op} }

func TestP41BodiesAsManyAsFunctions(t *testing.T) {
	one := body(bytesOf("00 0b"))
	for have := range 4 {
		begin := mod(ahead(have))
		decodes(t, "as many bodies as functions", join(begin, sec(10, u(uint64(have)), bytes.Repeat(one, have))), aheadModule(have))
		decodes(t, "as many, told in more groups", join(begin, sec(10, wide(u(uint64(have)), 3, false), bytes.Repeat(one, have))), aheadModule(have))
		for _, told := range []uint64{0, 1, 2, 3, 4, 5, 32, 33, 64, 1 << 20, 1<<32 - 1} {
			if told == uint64(have) {
				continue
			}
			for _, count := range [][]byte{u(told), wide(u(told), 5-len(u(told)), false)} {
				for _, there := range []int{have, int(min(told, 5)), 0} {
					b := join(begin, sec(10, count, bytes.Repeat(one, there)))
					at := len(b) - len(count) - there*len(one)
					faults(t, "fewer or more bodies", b, api.ErrForm, at)
				}
			}
		}
		b := join(begin, sec(10, u(uint64(have)), bytes.Repeat(one, have+1)))
		faults(t, "a body more than told", b, api.ErrForm, len(b)-len(one))
		if have > 0 {
			b = join(begin, sec(10, u(uint64(have)), bytes.Repeat(one, have-1)))
			faults(t, "a body fewer than told", b, api.ErrEnd, len(b))
		}
	}
	faults(t, "bodies without section 3", mod(sec(10, u(1), one)), api.ErrForm, 10)
	faultAll(t, ahead(1), []faultCase{
		{10, "!", api.ErrEnd, "no count"},
		{10, "80 80 80 80 !80 00", api.ErrLeb, "a count of too many groups"},
	})
}

func TestP41NoSectionOfBodies(t *testing.T) {
	data := sec(11, bytesOf("01 00 41 05 0b 00"))
	for have := range 4 {
		for _, behind := range [][]byte{nil, sec(0, []byte{1}), sec(5, u(0)), data, join(sec(8, u(0)), sec(0), data, sec(0))} {
			b := mod(ahead(have), behind)
			if have > 0 {
				faults(t, "functions without bodies", b, api.ErrForm, len(b))
			} else if _, f := wasm.Decode(b); f != (api.Fault{}) {
				t.Error("no functions and no bodies:", f)
			}
		}
	}
	b := mod(ahead(2), data)
	faults(t, "a later section's fault comes ahead", join(b, []byte{4}), api.ErrFloat, len(b))
	faults(t, "an end that is missing comes ahead", join(b, []byte{0, 5}), api.ErrEnd, len(b)+2)
}

func TestP41BodiesLengths(t *testing.T) {
	begin := mod(ahead(2))
	first := body(bytesOf("01 01 7f 20 00 1a 0b"))
	for _, has := range [][]byte{bytesOf("00 0b"), bytesOf("00 41 05 1a 0b"), bytesOf("00 02 40 01 0b 0b"), bytesOf("02 01 7f 02 7e 0f 0b")} {
		start := join(u(2), first)
		for cut := range has {
			// The body ends too early, within a section that goes on.
			code := sec(10, start, body(has[:cut]), []byte{0x0b, 0x0b})
			b := join(begin, code)
			faults(t, "a body that ends too early", b, api.ErrEnd, len(b)-2)
			// The section ends within the body.
			b = join(begin, sec(10, start, u(uint64(len(has))), has[:cut]))
			faults(t, "a body that is not all there", join(b, sec(0, has, has)), api.ErrEnd, len(b))
		}
		for _, wrong := range []string{"", "ff", "7d", "00 11 11", "ff ff ff ff ff ff"} {
			for _, more := range []uint64{1, 2, 100, 1 << 14, 1<<32 - 100} {
				there := bytesOf(wrong)
				b := join(begin, sec(10, start, u(uint64(len(there))+more), there))
				faults(t, "a body that is not all there, whatever it has", join(b, sec(0, has)), api.ErrEnd, len(b))
			}
		}
		for _, extra := range []string{"0b", "00", "05", "11", "01 0b", "ff ff"} {
			end := join(has, bytesOf(extra))
			b := join(begin, sec(10, start, body(end)))
			faults(t, "a body with bytes too many", join(b, sec(0)), api.ErrForm, len(b)-len(bytesOf(extra)))
			b = join(begin, sec(10, u(2), body(end), first))
			faults(t, "the first body with bytes too many", b, api.ErrForm, len(b)-len(bytesOf(extra))-len(first))
		}
	}
	faultAll(t, ahead(1), []faultCase{
		{10, "01 !", api.ErrEnd, "no length"},
		{10, "01 82 80 !", api.ErrEnd, "a length that ends"},
		{10, "01 82 80 80 80 !80 00 00 0b", api.ErrLeb, "a length of too many groups"},
		{10, "01 82 80 80 80 !10 00 0b", api.ErrLeb, "a length of too many bits"},
		{10, "01 00 !", api.ErrEnd, "a body without anything"},
		{10, "01 01 00 !", api.ErrEnd, "a body without operators"},
		{10, "01 03 00 !11 0b", api.ErrFloat, "a fault ahead of the end"},
		{10, "01 04 00 !05 0b 0b", api.ErrForm, "a fault ahead of bytes too many"},
		{10, "01 02 00 0b !00", api.ErrForm, "a byte too many in the section"},
		{10, "01 03 00 0b !00 00", api.ErrForm, "a byte too many in the body, ahead of one in the section"},
	})
	decodes(t, "a length in more groups", join(begin, sec(10, u(2), bytesOf("82 80 00 00 0b 82 80 80 80 00 00 0b"))), aheadModule(2))
}

func TestP41SecondBody(t *testing.T) {
	m := aheadModule(3)
	m.Funcs[0].Body = []api.Instr{in(1)}
	m.Funcs[1].Locals = []int{0x7e}
	m.Funcs[2].Body = []api.Instr{{Op: 0x41, N: 5}, in(0x1a)}
	has := bytesOf("03 03 00 01 0b 04 01 01 7e 0b 05 00 41 05 1a 0b")
	decodes(t, "three bodies", mod(ahead(3), sec(10, has)), m)
	faultAll(t, ahead(3), []faultCase{
		{10, "03 03 00 01 0b 04 01 01 !7d 0b 05 00 41 05 1a 0b", api.ErrFloat, "the second body's fault"},
		{10, "03 03 00 01 0b 04 01 01 7e 0b 05 00 41 05 !11 0b", api.ErrFloat, "the third body's fault"},
		{10, "03 03 00 !ff 0b 04 01 01 7d 0b 05 00 41 05 11 0b", api.ErrForm, "the first one of three"},
	})
}

func TestP41Locals(t *testing.T) {
	for _, c := range []struct {
		text string
		want []int
	}{
		{"00", nil},
		{"80 00", nil},
		{"01 01 7f", []int{0x7f}},
		{"01 83 80 00 7e", []int{0x7e, 0x7e, 0x7e}},
		{"01 00 7e", nil},
		{"04 01 7f 00 7e 02 7e 01 7f", []int{0x7f, 0x7e, 0x7e, 0x7f}},
		{"02 01 7f 01 7f", []int{0x7f, 0x7f}},
		{"01 20 7f", slices.Repeat([]int{0x7f}, 32)},
		{"02 1f 7f 01 7e", append(slices.Repeat([]int{0x7f}, 31), 0x7e)},
		{"03 10 7e 00 7f 10 7e", slices.Repeat([]int{0x7e}, 32)},
		{"02 20 7e 00 7f", slices.Repeat([]int{0x7e}, 32)},
		{"20 " + repeat("01 7f", 32), slices.Repeat([]int{0x7f}, 32)},
		{"20 " + repeat("00 7e", 32), nil},
		{"20 20 7f " + repeat("00 7e", 31), slices.Repeat([]int{0x7f}, 32)},
	} {
		m := aheadModule(1)
		m.Funcs[0].Locals = c.want
		b, _ := inBody(c.text + " 0b")
		decodes(t, c.text, b, m)
	}
	for _, c := range []struct {
		why  api.Errno
		text string
	}{
		{api.ErrMany, "!21 " + repeat("00 7f", 33) + "0b"},
		{api.ErrMany, "!a1 80 00 " + repeat("00 7f", 33) + "0b"},
		{api.ErrMany, "!ff ff ff ff 0f 0b"},
		{api.ErrMany, "01 !21 7f 0b"},
		{api.ErrMany, "01 !a1 80 00 7d 0b"},
		{api.ErrMany, "01 !ff ff ff ff 0f 7f 0b"},
		{api.ErrMany, "02 20 7f !01 7f 0b"},
		{api.ErrMany, "02 01 7f !20 7f 0b"},
		{api.ErrMany, "03 10 7f 10 7e !81 00 7d 0b"},
		{api.ErrMany, "02 01 7f !ff ff ff ff 0f 7f 0b"},
		{api.ErrMany, "03 00 7f 1f 7f !02 7e 0b"},
		{api.ErrFloat, "01 01 !7d 0b"},
		{api.ErrFloat, "02 01 7f 00 !7c 0b"},
		{api.ErrForm, "01 01 !7b 0b"},
		{api.ErrForm, "01 01 !40 0b"},
		{api.ErrForm, "01 20 !ff 0b"},
		{api.ErrForm, "01 00 !0b 0b"},
		{api.ErrEnd, "!"},
		{api.ErrEnd, "02 01 7f !"},
		{api.ErrEnd, "01 01 !"},
		{api.ErrEnd, "01 80 !"},
		{api.ErrEnd, "20 " + repeat("00 7f", 31) + "!"},
		{api.ErrLeb, "80 80 80 80 !10 0b"},
		{api.ErrLeb, "01 80 80 80 80 !80 00 7f 0b"},
	} {
		b, at := inBody(c.text)
		faults(t, c.text, b, c.why, at)
	}
	// Each function has its own.
	m := aheadModule(2)
	m.Funcs[0].Locals, m.Funcs[1].Locals = slices.Repeat([]int{0x7f}, 32), slices.Repeat([]int{0x7e}, 32)
	decodes(t, "two functions with all locals", mod(ahead(2), sec(10, bytesOf("02 04 01 20 7f 0b 04 01 20 7e 0b"))), m)
}

// bytesOfKind are the document's words on which byte is what.
const (
	plainBytes  = "00 01 0f 1a 1b"
	blockBytes  = "02 03 04"
	numberBytes = "0c 0d 10 20 21 22 23 24"
	zeroBytes   = "3f 40"
	accessBytes = "28 29 2c 2d 2e 2f 30 31 32 33 34 35 36 37 3a 3b 3c 3d 3e"
	floatBytes  = "11 2a 2b 38 39 43 44"
)

// hex2 is a byte in hexadecimal, of two digits.
func hex2(c int) string {
	const digits = "0123456789abcdef"
	return string([]byte{digits[c/16], digits[c%16]})
}

// within tells whether a number is one of these bytes.
func within(c int, text string) bool { return c >= 0 && c < 256 && strings.Contains(text, hex2(c)) }

// between tells whether a number is one of those from a to b, of some such.
func between(c int, pairs ...int) bool {
	for i := 0; i < len(pairs); i += 2 {
		if c >= pairs[i] && c <= pairs[i+1] {
			return true
		}
	}
	return false
}

func isNumber(c int) bool {
	return between(c, 0x45, 0x5a, 0x67, 0x8a, 0xa7, 0xa7, 0xac, 0xad, 0xc0, 0xc4)
}

func isFloat(c int) bool {
	return within(c, floatBytes) || between(c, 0x5b, 0x66, 0x8b, 0xa6, 0xa8, 0xab, 0xae, 0xbf)
}

func TestP41EachByteAsOperator(t *testing.T) {
	known := 0
	for c := range 256 {
		text := hex2(c)
		known++
		switch {
		case within(c, plainBytes) || isNumber(c):
			bodyDecodes(t, text, in(c))
			bodyDecodes(t, "01 "+text+" 01", in(1), in(c), in(1))
		case within(c, blockBytes):
			bodyDecodes(t, text+" 40 0b", in(c))
			bodyDecodes(t, text+" 40 01 0b 01", api.Instr{Op: c, Body: []api.Instr{in(1)}}, in(1))
		case within(c, numberBytes):
			bodyDecodes(t, text+" 05", api.Instr{Op: c, N: 5})
		case c == 0x0e:
			bodyDecodes(t, text+" 01 02 03", api.Instr{Op: c, Targets: []int{2, 3}})
		case within(c, accessBytes):
			bodyDecodes(t, text+" 00 05", api.Instr{Op: c, N: 5})
		case within(c, zeroBytes):
			bodyDecodes(t, text+" 00", in(c))
		case c == 0x41 || c == 0x42:
			bodyDecodes(t, text+" 05", api.Instr{Op: c, N: 5})
		default:
			known--
			why := api.ErrForm
			if isFloat(c) {
				why = api.ErrFloat
			}
			if c == 0x0b {
				bodyFaults(t, why, "0b !0b")
				continue
			}
			for _, behind := range []string{"", "0b", "00 0b", "40 0b 0b", "00 00 00 00 0b", "ff"} {
				bodyFaults(t, why, "!"+text+" "+behind)
				bodyFaults(t, why, "01 !"+text+" "+behind)
				bodyFaults(t, why, "02 40 01 !"+text+" "+behind+" 0b")
			}
		}
	}
	if want := 5 + 3 + 8 + 2 + 19 + 3 + 66; known != want {
		t.Errorf("the test's own tables have %d operators, not %d", known, want)
	}
}

func TestP41Blocks(t *testing.T) {
	for _, op := range []string{"02", "03", "04"} {
		c := int(bytesOf(op)[0])
		block := func(s api.Sig, l ...api.Instr) api.Instr { return api.Instr{Op: c, Type: s, Body: l} }
		bodyDecodes(t, op+" 40 0b", block(api.Sig{}))
		bodyDecodes(t, op+" 7f 41 05 0b", block(api.Sig{Out: []int{0x7f}}, api.Instr{Op: 0x41, N: 5}))
		bodyDecodes(t, op+" 7e 42 05 0b", block(api.Sig{Out: []int{0x7e}}, api.Instr{Op: 0x42, N: 5}))
		for n, s := range aheadModule(0).Types {
			digit := string(rune('0' + n))
			bodyDecodes(t, op+" 0"+digit+" 0b", block(s))
			bodyDecodes(t, op+" 8"+digit+" 80 00 1a 0b", block(s, in(0x1a)))
			bodyDecodes(t, op+" 8"+digit+" 80 80 80 80 80 80 80 80 00 0b", block(s))
		}
		bodyDecodes(t, op+" 40 01 "+op+" 01 00 0b 1a 0b 0f", block(api.Sig{}, in(1), block(aheadModule(0).Types[1], in(0)), in(0x1a)), in(0x0f))
		bodyDecodes(t, op+" 40 0b "+op+" 7f 0b", block(api.Sig{}), block(api.Sig{Out: []int{0x7f}}))
		for _, text := range []string{"!04 0b", "!20 0b", "!3f 0b", "!84 00 0b", "!84 80 80 80 80 80 80 80 80 00 0b", "!80 80 80 80 10 0b", "!ff ff ff ff ff ff ff ff ff 00 0b"} {
			bodyFaults(t, api.ErrIndex, op+" "+text+" 0b")
		}
		for _, text := range []string{"!41 0b", "!70 0b", "!7b 0b", "!ff 7f 0b", "!c0 7f 0b", "!fe 7f 0b", "!80 80 80 80 70 0b", "!80 80 80 80 80 80 80 80 80 7f 0b"} {
			bodyFaults(t, api.ErrIndex, op+" "+text+" 0b")
		}
		bodyFaults(t, api.ErrEnd, op+" !")
		bodyFaults(t, api.ErrEnd, op+" 80 !")
		bodyFaults(t, api.ErrEnd, op+" 40 !")
		bodyFaults(t, api.ErrEnd, op+" 40 0b !")
		bodyFaults(t, api.ErrEnd, op+" 40 "+op+" 40 0b 0b !")
		bodyFaults(t, api.ErrForm, op+" 40 0b 0b !0b")
		bodyFaults(t, api.ErrLeb, op+" 80 80 80 80 80 80 80 80 80 !80 00 0b 0b")
		bodyFaults(t, api.ErrLeb, op+" 80 80 80 80 80 80 80 80 80 !01 0b 0b")
		bodyFaults(t, api.ErrFloat, op+" 40 !11 0b 0b")
	}
	none := mod(sec(3, bytesOf("01 00")), sec(10, bytesOf("01 05 00 02 00 0b 0b")))
	faults(t, "a block of a type where there are none", none, api.ErrIndex, len(none)-3)
}

// A byte of floats is a type that is left out, in a block as anywhere. With a mark, or behind one, it belongs to a number; so do the bytes beside it.
func TestP41BlocksOfFloats(t *testing.T) {
	for _, op := range []string{"02", "03", "04"} {
		for _, text := range []string{"7d", "7c"} {
			for _, behind := range []string{" 0b 0b", "", " 41 05 0b 0b", " 00", " ff", " 11 0b"} {
				bodyFaults(t, api.ErrFloat, op+" !"+text+behind)
				bodyFaults(t, api.ErrFloat, "01 02 40 "+op+" !"+text+behind)
				bodyFaults(t, api.ErrFloat, "04 40 05 "+op+" !"+text+behind)
			}
			bodyFaults(t, api.ErrFloat, repeat("01", 511)+op+" !"+text+" 0b 0b")
			bodyFaults(t, api.ErrFloat, repeat("02 40", 15)+op+" !"+text+" "+repeat("0b", 17))
			bodyFaults(t, api.ErrIndex, op+" !f"+text[1:]+" 7f 0b 0b")
			bodyFaults(t, api.ErrIndex, op+" !83 "+text+" 0b 0b")
		}
		for _, text := range []string{"!7b", "!7a", "!79", "!70", "!6f", "!60"} {
			bodyFaults(t, api.ErrIndex, op+" "+text+" 0b 0b")
		}
	}
}

func TestP41Else(t *testing.T) {
	type list = []api.Instr
	bodyDecodes(t, "04 40 05 0b", api.Instr{Op: 4, HasElse: true})
	bodyDecodes(t, "04 40 01 05 00 0b", api.Instr{Op: 4, Body: list{in(1)}, Else: list{in(0)}, HasElse: true})
	bodyDecodes(t, "04 40 05 00 0b 01", api.Instr{Op: 4, Else: list{in(0)}, HasElse: true}, in(1))
	bodyDecodes(t, "04 40 01 05 0b", api.Instr{Op: 4, Body: list{in(1)}, HasElse: true})
	bodyDecodes(t, "04 40 01 0b", api.Instr{Op: 4, Body: list{in(1)}})
	inner := api.Instr{Op: 4, Type: api.Sig{Out: []int{0x7f}}, Body: list{in(0)}, Else: list{in(1)}, HasElse: true}
	bodyDecodes(t, "04 40 04 7f 00 05 01 0b 05 04 7f 00 05 01 0b 0b", api.Instr{Op: 4, Body: list{inner}, Else: list{inner}, HasElse: true})
	bodyDecodes(t, "04 40 02 40 0b 05 03 40 0b 0b", api.Instr{Op: 4, Body: list{in(2)}, Else: list{in(3)}, HasElse: true})
	bodyDecodes(t, "02 40 04 40 05 0b 0b", api.Instr{Op: 2, Body: list{{Op: 4, HasElse: true}}})
	for _, text := range []string{
		"!05 0b", "01 !05 0b 0b", "02 40 !05 0b 0b", "03 40 01 !05 01 0b 0b",
		"04 40 05 !05 0b 0b", "04 40 01 05 01 !05 01 0b 0b", "04 40 0b !05 0b 0b", "04 40 05 0b !05 0b 0b",
		"04 40 02 40 !05 0b 0b 0b", "04 40 02 40 !05 0b 05 0b 0b", "04 40 05 02 40 !05 0b 0b 0b",
		"04 40 04 40 05 0b 05 !05 0b 0b",
	} {
		bodyFaults(t, api.ErrForm, text)
	}
	bodyFaults(t, api.ErrEnd, "04 40 05 !")
	bodyFaults(t, api.ErrEnd, "04 40 05 0b !")
	bodyFaults(t, api.ErrEnd, "04 40 04 40 05 0b 05 0b !")
	bodyFaults(t, api.ErrFloat, "04 40 05 !2a 0b 0b")
}

func TestP41NumbersOfOperators(t *testing.T) {
	for _, op := range strings.Fields(numberBytes) {
		c := int(bytesOf(op)[0])
		for _, x := range []struct {
			text string
			n    uint64
		}{{"00", 0}, {"7f", 127}, {"80 01", 128}, {"85 80 80 80 00", 5}, {"ff ff ff ff 0f", 1<<32 - 1}} {
			bodyDecodes(t, op+" "+x.text, api.Instr{Op: c, N: x.n})
		}
		unsignedFaults(t, op)
	}
	for _, op := range strings.Fields(zeroBytes) {
		for c := 1; c < 256; c++ {
			b, at := inBody("00 " + op + " !ff 0b")
			b[at] = byte(c)
			faults(t, "a byte that is not 0 behind "+op, b, api.ErrForm, at)
		}
		bodyFaults(t, api.ErrEnd, op+" !")
	}
}

// unsignedFaults are those of a number of 32 bits without a sign.
func unsignedFaults(t *testing.T, behind string) {
	t.Helper()
	bodyFaults(t, api.ErrEnd, behind+" !")
	bodyFaults(t, api.ErrEnd, behind+" 80 80 80 80 !")
	bodyFaults(t, api.ErrLeb, behind+" 80 80 80 80 !80 00 0b")
	bodyFaults(t, api.ErrLeb, behind+" 80 80 80 80 !10 0b")
	bodyFaults(t, api.ErrLeb, behind+" ff ff ff ff !7f 0b")
}

func TestP41Constants(t *testing.T) {
	for _, x := range []struct {
		text string
		n    uint64
	}{
		{"41 00", 0}, {"41 3f", 63}, {"41 40", 1<<32 - 64}, {"41 7f", 1<<32 - 1}, {"41 ff 00", 127}, {"41 80 7f", 1<<32 - 128},
		{"41 85 80 80 80 00", 5}, {"41 ff ff ff ff 07", 1<<31 - 1}, {"41 80 80 80 80 78", 1 << 31}, {"41 ff ff ff ff 7f", 1<<32 - 1},
		{"42 00", 0}, {"42 40", 1<<64 - 64}, {"42 7f", 1<<64 - 1}, {"42 ff ff ff ff 0f", 1<<32 - 1}, {"42 80 80 80 80 78", 1<<64 - 1<<31},
		{"42 ff ff ff ff ff ff ff ff ff 00", 1<<63 - 1}, {"42 80 80 80 80 80 80 80 80 80 7f", 1 << 63}, {"42 85 80 80 80 80 80 80 80 80 00", 5},
		{"42 80 80 80 80 10", 1 << 32},
	} {
		bodyDecodes(t, x.text, api.Instr{Op: int(bytesOf(x.text)[0]), N: x.n})
	}
	bodyFaults(t, api.ErrEnd, "41 !")
	bodyFaults(t, api.ErrEnd, "41 80 80 80 80 !")
	bodyFaults(t, api.ErrLeb, "41 80 80 80 80 !80 00 0b")
	bodyFaults(t, api.ErrLeb, "41 80 80 80 80 !08 0b")
	bodyFaults(t, api.ErrLeb, "41 ff ff ff ff !0f 0b")
	bodyFaults(t, api.ErrLeb, "41 80 80 80 80 !77 0b")
	bodyFaults(t, api.ErrEnd, "42 !")
	bodyFaults(t, api.ErrEnd, "42 80 80 80 80 80 80 80 80 80 !")
	bodyFaults(t, api.ErrLeb, "42 80 80 80 80 80 80 80 80 80 !80 00 0b")
	bodyFaults(t, api.ErrLeb, "42 80 80 80 80 80 80 80 80 80 !01 0b")
	bodyFaults(t, api.ErrLeb, "42 ff ff ff ff ff ff ff ff ff !7e 0b")
}

func TestP41Targets(t *testing.T) {
	bodyDecodes(t, "0e 00 05", api.Instr{Op: 0x0e, Targets: []int{5}})
	bodyDecodes(t, "0e 80 00 85 00", api.Instr{Op: 0x0e, Targets: []int{5}})
	bodyDecodes(t, "0e 02 07 ff ff ff ff 0f 00", api.Instr{Op: 0x0e, Targets: []int{7, 1<<32 - 1, 0}})
	for _, count := range []int{63, 64} {
		var want []int
		has := join([]byte{0x0e}, u(uint64(count)))
		for i := range count + 1 {
			want = append(want, i*50)
			has = join(has, u(uint64(i*50)))
		}
		m := aheadModule(1)
		m.Funcs[0].Body = []api.Instr{{Op: 0x0e, Targets: want}, in(1)}
		decodes(t, "many targets", mod(ahead(1), sec(10, u(1), body([]byte{0}, has, []byte{1, 0x0b}))), m)
	}
	bodyFaults(t, api.ErrMany, "0e !41 "+repeat("00", 66)+"0b")
	bodyFaults(t, api.ErrMany, "0e !c1 80 00")
	bodyFaults(t, api.ErrMany, "0e !ff ff ff ff 0f 0b")
	unsignedFaults(t, "0e")
	unsignedFaults(t, "0e 00")
	unsignedFaults(t, "0e 01 05")
	unsignedFaults(t, "0e 02 05")
	bodyFaults(t, api.ErrEnd, "0e 40 "+repeat("00", 64)+"!")
}

// wide2 is the power of 2 that an access's bytes are.
func wide2(op int) int {
	switch {
	case within(op, "2c 2d 30 31 3a 3c"):
		return 0
	case within(op, "2e 2f 32 33 3b 3d"):
		return 1
	case within(op, "28 34 35 36 3e"):
		return 2
	}
	return 3
}

func TestP41Accesses(t *testing.T) {
	for _, op := range strings.Fields(accessBytes) {
		c := int(bytesOf(op)[0])
		most := wide2(c)
		for m, text := range []string{"00", "01", "02", "03", "04", "05"} {
			if m <= most {
				bodyDecodes(t, op+" "+text+" 05", api.Instr{Op: c, M: uint64(m), N: 5})
				bodyDecodes(t, op+" 8"+text[1:]+" 80 00 ff ff ff ff 0f", api.Instr{Op: c, M: uint64(m), N: 1<<32 - 1})
				continue
			}
			bodyFaults(t, api.ErrForm, op+" !"+text+" 05 0b")
			bodyFaults(t, api.ErrForm, op+" !8"+text[1:]+" 80 00 05 0b")
			bodyFaults(t, api.ErrForm, op+" !"+text)
			bodyFaults(t, api.ErrForm, op+" !"+text+" 80 80 80 80 80 00 0b")
		}
		for _, text := range []string{"!1f", "!20", "!3f", "!40", "!7f", "!80 01", "!c0 00", "!80 02", "!ff ff ff ff 0f", "!80 80 80 80 08"} {
			bodyFaults(t, api.ErrForm, op+" "+text+" 05 0b")
		}
		unsignedFaults(t, op)
		unsignedFaults(t, op+" 00")
	}
}

func TestP41MaxOps(t *testing.T) {
	nops := func(count int) []api.Instr { return slices.Repeat([]api.Instr{in(1)}, count) }
	bodyDecodes(t, repeat("01", 511), nops(511)...)
	bodyDecodes(t, repeat("01", 512), nops(512)...)
	bodyDecodes(t, repeat("41 05", 512), slices.Repeat([]api.Instr{{Op: 0x41, N: 5}}, 512)...)
	bodyDecodes(t, "02 40 "+repeat("01", 511)+"0b", api.Instr{Op: 2, Body: nops(511)})
	bodyDecodes(t, repeat("01", 511)+"03 40 0b", append(nops(511), in(3))...)
	bodyDecodes(t, "04 40 "+repeat("01", 300)+"05 "+repeat("01", 211)+"0b", api.Instr{Op: 4, Body: nops(300), Else: nops(211), HasElse: true})
	bodyDecodes(t, repeat("04 40 05 0b", 512), slices.Repeat([]api.Instr{{Op: 4, HasElse: true}}, 512)...)
	bodyFaults(t, api.ErrMany, "02 40 "+repeat("01", 511)+"!01 0b 0b")
	bodyFaults(t, api.ErrMany, "02 40 "+repeat("01", 511)+"0b !01 0b")
	bodyFaults(t, api.ErrMany, "04 40 "+repeat("01", 300)+"05 "+repeat("01", 211)+"!01 0b 0b")
	bodyFaults(t, api.ErrMany, "04 40 "+repeat("01", 300)+"05 "+repeat("01", 211)+"0b !01 0b")
	bodyFaults(t, api.ErrMany, repeat("04 40 05 0b", 512)+"!01 0b")
	bodyFaults(t, api.ErrMany, repeat("03 40 0b", 512)+"!01 0b")
	for c := range 256 {
		if c == 0x05 || c == 0x0b {
			continue
		}
		b, at := inBody("00 " + repeat("01", 512) + "!ff 0b")
		b[at] = byte(c)
		faults(t, "an operator too many", b, api.ErrMany, at)
	}
	bodyFaults(t, api.ErrMany, repeat("01", 512)+"!41")
	bodyFaults(t, api.ErrMany, repeat("01", 512)+"!02 7d")
	bodyFaults(t, api.ErrEnd, repeat("01", 512)+"!")
	// Each function has its own.
	m := aheadModule(2)
	m.Funcs[0].Body, m.Funcs[1].Body = nops(512), nops(512)
	full := body(bytesOf("00 " + repeat("01", 512) + "0b"))
	decodes(t, "two functions with all operators", mod(ahead(2), sec(10, u(2), full, full)), m)
	over := body(bytesOf("00 " + repeat("01", 513) + "0b"))
	b := mod(ahead(2), sec(10, u(2), full, over))
	faults(t, "the second function with one more", b, api.ErrMany, len(b)-2)
}

func TestP41MaxNest(t *testing.T) {
	// nest is so many blocks within one another, of kinds in turn, and what is within the last one.
	nest := func(count int, within ...api.Instr) []api.Instr {
		for i := count - 1; i >= 0; i-- {
			within = []api.Instr{{Op: []int{2, 3, 4}[i%3], Body: within}}
		}
		return within
	}
	open := func(count int) string {
		var text strings.Builder
		for i := range count {
			text.WriteString([]string{"02", "03", "04"}[i%3] + " 40 ")
		}
		return text.String()
	}
	for _, count := range []int{1, 15, 16} {
		bodyDecodes(t, open(count)+repeat("0b", count), nest(count)...)
		bodyDecodes(t, open(count)+"01 "+repeat("0b", count)+"01", append(nest(count, in(1)), in(1))...)
	}
	for _, op := range []string{"02", "03", "04"} {
		for _, behind := range []string{" 40 0b", "", " 20", " 7d", " 80 80 80 80 80 80 80 80 80 80 00"} {
			bodyFaults(t, api.ErrMany, open(16)+"!"+op+behind+" "+repeat("0b", 17))
		}
		bodyFaults(t, api.ErrMany, open(16)+"01 !"+op+" 40 0b "+repeat("0b", 17))
		bodyDecodes(t, open(15)+op+" 40 0b "+op+" 40 0b "+repeat("0b", 15), nest(15, in(int(bytesOf(op)[0])), in(int(bytesOf(op)[0])))...)
		same := op + " 40 "
		bodyFaults(t, api.ErrMany, repeat(same, 16)+"!"+op+" 40 "+repeat("0b", 18))
		bodyFaults(t, api.ErrMany, repeat("04 40 05", 16)+"!"+op+" 40 "+repeat("0b", 18))
		bodyFaults(t, api.ErrMany, open(15)+"04 40 05 !"+op+" 40 "+repeat("0b", 18))
	}
	var els []api.Instr
	for range 16 {
		els = []api.Instr{{Op: 4, Else: els, HasElse: true}}
	}
	bodyDecodes(t, repeat("04 40 05", 16)+repeat("0b", 16), els...)
	// Other faults within 16 blocks stay as they are.
	bodyFaults(t, api.ErrFloat, open(16)+"!11 "+repeat("0b", 17))
	bodyFaults(t, api.ErrForm, open(16)+"!06 "+repeat("0b", 17))
	bodyFaults(t, api.ErrEnd, open(16)+repeat("0b", 16)+"!")
}

func TestP41FirstOfTwoFaults(t *testing.T) {
	for _, c := range []struct {
		why  api.Errno
		text string
	}{
		{api.ErrFloat, "!11 06"}, {api.ErrForm, "!06 11"}, {api.ErrIndex, "02 !04 11"}, {api.ErrForm, "28 !04 80"},
		{api.ErrForm, "3f !01 11"}, {api.ErrMany, "0e !41 80 80 80 80 80"}, {api.ErrLeb, "20 80 80 80 80 !80 11"},
		{api.ErrFloat, "02 40 !2a"}, {api.ErrFloat, "!44 0b 0b"}, {api.ErrForm, "0b !11"}, {api.ErrForm, "04 40 05 !05 11"},
	} {
		bodyFaults(t, c.why, c.text)
	}
	b := mod(ahead(1), sec(10, u(1), body(bytesOf("00 11 0b"))), []byte{4})
	faults(t, "a body's fault ahead of a later section's", b, api.ErrFloat, len(b)-3)
}
