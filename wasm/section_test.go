package wasm_test

import (
	"bytes"
	"strconv"
	"testing"

	"bellcrank/api"
	"bellcrank/wasm"
)

func TestP41Empty(t *testing.T) {
	m, f := wasm.Decode(head())
	if f != (api.Fault{}) || m.Pages != -1 || m.Most != 0 || m.Start != -1 || !equal(m, empty()) {
		t.Error(m, f)
	}
}

func TestP41MaxBytes(t *testing.T) {
	for _, more := range []int{-1, 0} {
		b := mod(sec(0, make([]byte, 1<<14-11+more)))
		if len(b) != 1<<14+more {
			t.Fatal("the test's own bytes are", len(b))
		}
		decodes(t, "a module of just as many bytes", b, empty())
	}
	faults(t, "one more", mod(sec(0, make([]byte, 1<<14-10))), api.ErrMany, 0)
	faults(t, "many more", mod(sec(0, make([]byte, 1<<16))), api.ErrMany, 0)
	faults(t, "one more, none of a module", bytes.Repeat([]byte{0xff}, 1<<14+1), api.ErrMany, 0)
	faults(t, "just as many, none of a module", bytes.Repeat([]byte{0xff}, 1<<14), api.ErrMagic, 0)
}

func TestP41Magic(t *testing.T) {
	for at := range head() {
		faults(t, "a beginning of the first bytes", head()[:at], api.ErrEnd, at)
		for c := range 256 {
			if byte(c) == head()[at] {
				continue
			}
			b := head()
			b[at] = byte(c)
			faults(t, "a wrong byte", b, api.ErrMagic, at)
			faults(t, "a wrong byte at the end", b[:at+1], api.ErrMagic, at)
			faults(t, "a wrong byte, and more", join(b, []byte{4, 0xff}), api.ErrMagic, at)
		}
	}
	b := head()
	b[2], b[5] = 9, 9
	faults(t, "two wrong bytes", b, api.ErrMagic, 2)
	faults(t, "no bytes", nil, api.ErrEnd, 0)
}

// least is the shortest section of each kind that may stand alone, and the module that it makes.
func least(id byte) ([]byte, func(m *api.Module)) {
	if id == 8 {
		return sec(8, u(0)), func(m *api.Module) { m.Start = 0 }
	}
	return sec(id, u(0)), func(*api.Module) {}
}

// kinds are the sections that may be, but 0.
func kinds() []byte { return []byte{1, 2, 3, 5, 6, 7, 8, 10, 11} }

func TestP41SectionsByTheirByte(t *testing.T) {
	for c := range 256 {
		id := byte(c)
		b := mod([]byte{id})
		switch {
		case id == 4 || id == 9:
			faults(t, "a section of a table", b, api.ErrFloat, 8)
			faults(t, "a section of a table", mod(sec(id, u(0))), api.ErrFloat, 8)
		case id > 11:
			faults(t, "a section of no kind", b, api.ErrForm, 8)
			faults(t, "a section of no kind", mod(sec(id, u(0))), api.ErrForm, 8)
		case id == 0:
			decodes(t, "a section 0 without anything", mod(sec(0)), empty())
			faults(t, "a section without its length", b, api.ErrEnd, 9)
		default:
			faults(t, "a section without its length", b, api.ErrEnd, 9)
			faults(t, "a section without anything", mod(sec(id)), api.ErrEnd, 10)
			one, turn := least(id)
			m := empty()
			turn(&m)
			decodes(t, "a section alone", mod(one), m)
		}
	}
}

func TestP41SectionsInOrder(t *testing.T) {
	any0 := sec(0, []byte{1, 1, 0xff})
	for _, a := range kinds() {
		first, turnA := least(a)
		for _, b := range kinds() {
			second, turnB := least(b)
			m := empty()
			turnA(&m)
			turnB(&m)
			for _, between := range [][]byte{nil, any0, join(any0, sec(0), any0)} {
				all := mod(first, between, second)
				if b > a {
					decodes(t, "sections that rise", all, m)
				} else {
					faults(t, "sections that do not rise", all, api.ErrForm, 8+len(first)+len(between))
				}
			}
		}
		for _, b := range []byte{4, 9} {
			faults(t, "a table behind a section", mod(first, sec(b, u(0))), api.ErrFloat, 8+len(first))
			faults(t, "a table behind a section", mod(first, any0, []byte{b}), api.ErrFloat, 8+len(first)+len(any0))
		}
		for _, b := range []byte{12, 13, 127, 128, 255} {
			faults(t, "no kind behind a section", mod(first, sec(b, u(0))), api.ErrForm, 8+len(first))
		}
	}
	last, _ := least(11)
	faults(t, "a section behind rising ones", mod(sec(1, u(0)), last, sec(10, u(0))), api.ErrForm, 8+2*3)
}

// sample is a section's bytes that may be, and what must stand ahead of it and behind it.
type sample struct {
	id     byte
	ahead  []byte
	has    []byte
	behind []byte
}

// samples are sections of each kind, which have something of all that such one has.
func samples() []sample {
	types := sec(1, bytesOf("02 60 00 00 60 02 7f 7e 01 7e"))
	return []sample{
		{1, nil, bytesOf("03 60 00 00 60 02 7f 7e 01 7e 60 01 7f 02 7e 7f"), nil},
		{2, types, bytesOf("02 03 65 6e 76 02 66 31 00 01 00 00 00 81 00"), nil},
		{3, types, bytesOf("03 00 01 80 00"), sec(10, bytesOf("03 02 00 0b 02 00 0b 02 00 0b"))},
		{5, nil, bytesOf("01 01 02 8f 00"), nil},
		{6, nil, bytesOf("03 7f 00 41 e4 00 0b 7e 01 42 80 7f 0b 7f 01 41 7f 0b"), nil},
		{7, nil, bytesOf("03 01 61 00 00 02 62 63 02 00 00 03 85 00"), nil},
		{8, nil, bytesOf("83 80 00"), nil},
		{10, join(types, sec(3, bytesOf("02 00 01"))), bytesOf("02 0a 02 02 7f 01 7e 41 c0 00 1a 0b 05 00 01 20 00 0b"), nil},
		{11, nil, bytesOf("02 00 41 05 0b 03 00 ff 80 80 00 41 7f 0b 00"), nil},
	}
}

func TestP41SectionsThatEndTooEarly(t *testing.T) {
	for _, x := range samples() {
		ahead := join(head(), x.ahead)
		whole := join(ahead, sec(x.id, x.has), sec(0, []byte{1}), x.behind)
		if _, f := wasm.Decode(whole); f != (api.Fault{}) {
			t.Fatalf("the test's own section %d: %v", x.id, f)
		}
		for cut := range x.has {
			b := join(ahead, sec(x.id, x.has[:cut]))
			faults(t, "a section that ends too early", join(b, sec(0, []byte{1, 2, 3})), api.ErrEnd, len(b))
			faults(t, "one at the end", b, api.ErrEnd, len(b))
		}
	}
}

func TestP41SectionsThatAreNotThere(t *testing.T) {
	for _, x := range append(samples(), sample{0, nil, bytesOf("01 02 03"), nil}) {
		ahead := join(head(), x.ahead, []byte{x.id})
		whole := join(u(uint64(len(x.has))), x.has)
		for cut := range whole {
			b := join(ahead, whole[:cut])
			faults(t, "a section that is not all there", b, api.ErrEnd, len(b))
		}
		for _, has := range [][]byte{x.has, bytes.Repeat([]byte{0xff}, len(x.has)), nil, {0x7d}, {4}} {
			for _, more := range []uint64{1, 2, 127, 1 << 14, 1<<32 - 1 - 20} {
				b := join(ahead, u(uint64(len(has))+more), has)
				faults(t, "a section that is longer than all bytes", b, api.ErrEnd, len(b))
			}
		}
		place := len(ahead)
		faults(t, "a length of too many groups", join(ahead, bytesOf("80 80 80 80 80 00")), api.ErrLeb, place+4)
		faults(t, "a length of too many bits", join(ahead, bytesOf("ff ff ff ff 1f 00")), api.ErrLeb, place+4)
		faults(t, "a length that ends", join(ahead, bytesOf("80 80")), api.ErrEnd, place+2)
	}
}

func TestP41SectionsWithBytesTooMany(t *testing.T) {
	for _, x := range samples() {
		ahead := join(head(), x.ahead)
		for _, extra := range [][]byte{{0}, {0xff}, {0x0b, 0}, {4, 4, 4}, x.has} {
			b := join(ahead, sec(x.id, x.has, extra), sec(0), x.behind)
			faults(t, "bytes too many", b, api.ErrForm, len(ahead)+1+1+len(x.has))
			whole := wide(u(uint64(len(x.has)+len(extra))), 2, false)
			b = join(ahead, []byte{x.id}, whole, x.has, extra)
			faults(t, "bytes too many behind a long length", b, api.ErrForm, len(ahead)+1+len(whole)+len(x.has))
		}
	}
	// A fault of what a section has comes ahead of bytes too many, and a fault of a later section does not.
	faults(t, "a fault and a byte too many", mod(sec(1, bytesOf("01 60 00 01 7d 00"))), api.ErrFloat, 14)
	faults(t, "a byte too many and a later fault", mod(sec(1, bytesOf("00 00")), sec(4)), api.ErrForm, 11)
}

// faultCase is what a section has, with its wrong byte marked.
type faultCase struct {
	id   byte
	has  string
	why  api.Errno
	what string
}

// faultAll holds faults of sections against the document. A section 0 behind each lets its end be another place than the end of all bytes.
func faultAll(t *testing.T, ahead []byte, cases []faultCase) {
	t.Helper()
	for _, c := range cases {
		has, mark := hexed(c.has)
		begin := join(head(), ahead, []byte{c.id}, u(uint64(len(has))))
		faults(t, "section "+strconv.Itoa(int(c.id))+", "+c.what, join(begin, has, sec(0, []byte{1, 2})), c.why, len(begin)+mark)
	}
}

// goodCase is what a section has, and what it makes of the module.
type goodCase struct {
	id   byte
	has  string
	turn func(m *api.Module)
}

// goodAll holds sections against the modules that they make.
func goodAll(t *testing.T, ahead []byte, m api.Module, cases []goodCase) {
	t.Helper()
	for _, c := range cases {
		want := clone(m)
		c.turn(&want)
		decodes(t, "section "+strconv.Itoa(int(c.id)), mod(ahead, sec(c.id, bytesOf(c.has)), sec(0, []byte{9})), want)
	}
}

// countFaults are the faults of a count that may be so much: above it, in more groups than it needs, and of numbers that are none.
func countFaults(id byte, ahead string, most int, behind string) []faultCase {
	over := func(b []byte) string {
		text := ahead + " !"
		for _, c := range b {
			text += hex2(int(c)) + " "
		}
		return text + behind
	}
	return []faultCase{
		{id, over(u(uint64(most) + 1)), api.ErrMany, "one more than there may be"},
		{id, over(wide(u(uint64(most)+1), 2, false)), api.ErrMany, "one more than there may be, in more groups"},
		{id, over(u(1<<31 + 5)), api.ErrMany, "a count above 2^31"},
		{id, over(u(1<<32 - 1)), api.ErrMany, "the greatest count"},
		{id, ahead + " !", api.ErrEnd, "no count"},
		{id, ahead + " 80 80 !", api.ErrEnd, "a count that ends"},
		{id, ahead + " 80 80 80 80 !80 00 " + behind, api.ErrLeb, "a count of too many groups"},
		{id, ahead + " 80 80 80 80 !10 " + behind, api.ErrLeb, "a count of too many bits"},
		{id, ahead + " " + hex2(most%128|128) + " " + hex2(most/128|128) + " 80 80 !70 " + behind, api.ErrLeb, "a count whose last bits say more"},
	}
}

// numberFaults are those of a number that may be any of 32 bits.
func numberFaults(id byte, ahead, behind string) []faultCase {
	return []faultCase{
		{id, ahead + " !", api.ErrEnd, "no number"},
		{id, ahead + " ff ff !", api.ErrEnd, "a number that ends"},
		{id, ahead + " 80 80 80 80 !80 00 " + behind, api.ErrLeb, "a number of too many groups"},
		{id, ahead + " ff ff ff ff !1f " + behind, api.ErrLeb, "a number of more than 32 bits"},
		{id, ahead + " 80 80 80 80 !7f " + behind, api.ErrLeb, "a number with a sign"},
	}
}

// kindFaults are those of the type of a value.
func kindFaults(id byte, ahead, behind string) []faultCase {
	cases := []faultCase{
		{id, ahead + " !7d " + behind, api.ErrFloat, "a type of 32 bits with a point"},
		{id, ahead + " !7c " + behind, api.ErrFloat, "a type of 64 bits with a point"},
		{id, ahead + " !", api.ErrEnd, "no type"},
	}
	for _, c := range []string{"00", "01", "0b", "40", "41", "60", "6f", "70", "7b", "80", "fc", "fd", "fe", "ff"} {
		cases = append(cases, faultCase{id, ahead + " !" + c + " " + behind, api.ErrForm, "a type that is none"})
	}
	return cases
}

// nameFaults are those of a name.
func nameFaults(id byte, ahead, behind string) []faultCase {
	cases := countFaults(id, ahead, 32, repeat("41", 33)+behind)
	for _, c := range []string{"00", "01", "0a", "1e", "1f", "7f", "80", "c3", "fe", "ff"} {
		cases = append(cases,
			faultCase{id, ahead + " 01 !" + c + " " + behind, api.ErrName, "a byte that is in no name"},
			faultCase{id, ahead + " 03 20 7e !" + c + " " + behind, api.ErrName, "such a byte at the end"},
			faultCase{id, ahead + " 03 !" + c + " 7e 00 " + behind, api.ErrName, "two such bytes"})
	}
	return append(cases,
		faultCase{id, ahead + " 01 !", api.ErrEnd, "a name that is not there"},
		faultCase{id, ahead + " 20 " + repeat("41", 31) + "!", api.ErrEnd, "a name that ends"})
}

// byteFaults are those of a byte that may be some alone.
func byteFaults(id byte, ahead, behind, may, left string) []faultCase {
	cases := []faultCase{{id, ahead + " !", api.ErrEnd, "no byte"}}
	for c := range 256 {
		if within(c, may) {
			continue
		}
		why := api.ErrForm
		if within(c, left) {
			why = api.ErrFloat
		}
		cases = append(cases, faultCase{id, ahead + " !" + hex2(c) + " " + behind, why, "a byte that may not stand there"})
	}
	return cases
}

func TestP41Types(t *testing.T) {
	goodAll(t, nil, empty(), []goodCase{
		{1, "00", func(*api.Module) {}},
		{1, "80 80 00", func(*api.Module) {}},
		{1, "01 60 00 00", func(m *api.Module) { m.Types = []api.Sig{{}} }},
		{1, "02 60 01 7f 00 60 00 01 7e", func(m *api.Module) { m.Types = []api.Sig{{In: []int{0x7f}}, {Out: []int{0x7e}}} }},
		{1, "02 60 01 7f 00 60 01 7f 00", func(m *api.Module) { m.Types = []api.Sig{{In: []int{0x7f}}, {In: []int{0x7f}}} }},
		{1, "01 60 82 00 7e 7f 83 80 80 80 00 7f 7e 7e", func(m *api.Module) {
			m.Types = []api.Sig{{In: []int{0x7e, 0x7f}, Out: []int{0x7f, 0x7e, 0x7e}}}
		}},
		{1, "01 60 08 7f 7f 7f 7f 7e 7e 7e 7e 08 7e 7e 7e 7e 7f 7f 7f 7f", func(m *api.Module) {
			m.Types = []api.Sig{{
				In:  []int{0x7f, 0x7f, 0x7f, 0x7f, 0x7e, 0x7e, 0x7e, 0x7e},
				Out: []int{0x7e, 0x7e, 0x7e, 0x7e, 0x7f, 0x7f, 0x7f, 0x7f},
			}}
		}},
		{1, "20 " + repeat("60 00 01 7f", 32), func(m *api.Module) {
			for range 32 {
				m.Types = append(m.Types, api.Sig{Out: []int{0x7f}})
			}
		}},
	})
	faultAll(t, nil, countFaults(1, "", 32, repeat("60 00 00", 33)))
	faultAll(t, nil, byteFaults(1, "02 60 00 00", "00 00", "60", ""))
	faultAll(t, nil, countFaults(1, "02 60 00 00 60", 8, repeat("7f", 9)+"00"))
	faultAll(t, nil, countFaults(1, "02 60 00 00 60 01 7f", 8, repeat("7e", 9)))
	faultAll(t, nil, kindFaults(1, "01 60 02 7f", "00"))
	faultAll(t, nil, kindFaults(1, "01 60 01", "00"))
	faultAll(t, nil, kindFaults(1, "01 60 00 02 7e", ""))
	faultAll(t, nil, []faultCase{
		{1, "20 " + repeat("60 00 00", 31) + "!", api.ErrEnd, "fewer than told"},
		{1, "01 !61 01 7d", api.ErrForm, "two faults"},
		{1, "!21 61", api.ErrMany, "a count ahead of a fault"},
		{1, "01 60 !09 7d", api.ErrMany, "a count ahead of a float"},
		{1, "01 60 02 !7d 7b 00", api.ErrFloat, "two types that may not be"},
		{1, "01 60 02 !7b 7d 00", api.ErrForm, "two types that may not be"},
	})
}

func TestP41Imports(t *testing.T) {
	var full []byte
	for range 32 {
		full = append(full, 0x7e)
	}
	goodAll(t, nil, empty(), []goodCase{
		{2, "00", func(*api.Module) {}},
		{2, "01 00 00 00 00", func(m *api.Module) { m.Imports = []api.Import{{}} }},
		{2, "01 02 61 62 01 63 00 05", func(m *api.Module) { m.Imports = []api.Import{{Mod: "ab", Name: "c", Type: 5}} }},
		{2, "02 01 20 01 7e 00 ff ff ff ff 0f 00 83 00 21 7d 41 00 80 00", func(m *api.Module) {
			m.Imports = []api.Import{{Mod: " ", Name: "~", Type: 1<<32 - 1}, {Name: "!}A"}}
		}},
		{2, "01 20 " + repeat("7e", 32) + "a0 80 00 " + repeat("7e", 32) + "00 20", func(m *api.Module) {
			m.Imports = []api.Import{{Mod: string(full), Name: string(full), Type: 32}}
		}},
		{2, "20 " + repeat("01 61 01 62 00 01", 32), func(m *api.Module) {
			for range 32 {
				m.Imports = append(m.Imports, api.Import{Mod: "a", Name: "b", Type: 1})
			}
		}},
	})
	for c := 32; c <= 126; c++ {
		m := empty()
		m.Imports = []api.Import{{Mod: string(rune(c)), Name: string(rune(c))}}
		decodes(t, "a byte of a name", mod(sec(2, []byte{1, 1, byte(c), 1, byte(c), 0, 0})), m)
	}
	faultAll(t, nil, countFaults(2, "", 32, repeat("00 00 00 00", 33)))
	faultAll(t, nil, nameFaults(2, "02 00 00 00 00", "00 00 00"))
	faultAll(t, nil, nameFaults(2, "02 00 00 00 00 02 41 42", "00 00"))
	faultAll(t, nil, byteFaults(2, "02 00 00 00 00 00 01 41", "00", "00", "01 02 03"))
	faultAll(t, nil, numberFaults(2, "02 00 00 00 00 00 01 41 00", ""))
	faultAll(t, nil, []faultCase{
		{2, "01 01 !1f 01 1f 04", api.ErrName, "the first name's fault"},
		{2, "01 01 41 01 !1f 04 ff", api.ErrName, "the second name's fault"},
		{2, "01 !21 1f", api.ErrMany, "a name's length ahead of its bytes"},
	})
}

func TestP41Funcs(t *testing.T) {
	// Without the section of bodies all that is told of functions ends in a fault behind it.
	none := sec(10, u(0))
	decodes(t, "no functions", mod(sec(3, u(0))), empty())
	decodes(t, "no functions, no bodies", mod(sec(3, u(0)), none), empty())
	decodes(t, "no bodies alone", mod(none), empty())
	for _, imports := range []int{0, 1, 31, 32} {
		m := empty()
		ahead := sec(2, u(uint64(imports)), bytes.Repeat([]byte{0, 0, 0, 0}, imports))
		for range imports {
			m.Imports = append(m.Imports, api.Import{})
		}
		most := 32 - imports
		for count := max(0, most-1); count <= most; count++ {
			want := clone(m)
			for i := range count {
				want.Funcs = append(want.Funcs, api.Func{Type: i * 1000})
			}
			b := mod(ahead, funcs(want), sec(10, u(uint64(count)), bytes.Repeat([]byte{2, 0, 0x0b}, count)))
			decodes(t, "as many functions as may be", b, want)
		}
		faultAll(t, ahead, countFaults(3, "", most, repeat("00", most+1)))
	}
	faultAll(t, nil, numberFaults(3, "02 01", ""))
}

// funcs is section 3 of a module.
func funcs(m api.Module) []byte {
	has := u(uint64(len(m.Funcs)))
	for _, f := range m.Funcs {
		has = join(has, u(uint64(f.Type)))
	}
	return sec(3, has)
}

func TestP41Memory(t *testing.T) {
	memory := func(pages, most int) func(m *api.Module) {
		return func(m *api.Module) { m.Pages, m.Most = pages, most }
	}
	goodAll(t, nil, empty(), []goodCase{
		{5, "00", func(*api.Module) {}},
		{5, "80 00", func(*api.Module) {}},
		{5, "01 00 00", memory(0, 16)},
		{5, "01 00 01", memory(1, 16)},
		{5, "01 00 10", memory(16, 16)},
		{5, "01 00 90 80 00", memory(16, 16)},
		{5, "01 01 00 00", memory(0, 0)},
		{5, "01 01 00 10", memory(0, 16)},
		{5, "01 01 03 03", memory(3, 3)},
		{5, "01 01 03 04", memory(3, 4)},
		{5, "01 01 10 10", memory(16, 16)},
		{5, "81 00 01 82 00 8f 80 80 80 00", memory(2, 15)},
	})
	faultAll(t, nil, countFaults(5, "", 1, "00 01 00 01"))
	faultAll(t, nil, byteFaults(5, "01", "01 01", "00 01", ""))
	faultAll(t, nil, countFaults(5, "01 00", 16, ""))
	faultAll(t, nil, countFaults(5, "01 01", 16, "10"))
	faultAll(t, nil, countFaults(5, "01 01 00", 16, ""))
	faultAll(t, nil, []faultCase{
		{5, "01 01 01 !00", api.ErrForm, "a most below the pages"},
		{5, "01 01 10 !0f", api.ErrForm, "a most one below the pages"},
		{5, "01 01 10 !8f 00", api.ErrForm, "such a one in two groups"},
		{5, "01 01 !11 00", api.ErrMany, "pages ahead of a most below them"},
		{5, "01 01 10 !11", api.ErrMany, "a most above what may be"},
		{5, "01 00 01 !01", api.ErrForm, "a most that was not told of"},
		{5, "01 !02 11", api.ErrForm, "a byte ahead of the pages"},
	})
}

func TestP41Globals(t *testing.T) {
	global := func(kind int, mut bool, n uint64) func(m *api.Module) {
		return func(m *api.Module) { m.Globals = []api.Global{{Type: kind, Mut: mut, N: n}} }
	}
	goodAll(t, nil, empty(), []goodCase{
		{6, "00", func(*api.Module) {}},
		{6, "01 7f 00 41 00 0b", global(0x7f, false, 0)},
		{6, "01 7f 01 41 e4 00 0b", global(0x7f, true, 100)},
		{6, "01 7f 00 41 7f 0b", global(0x7f, false, 1<<32-1)},
		{6, "01 7f 00 41 ff ff ff ff 7f 0b", global(0x7f, false, 1<<32-1)},
		{6, "01 7f 00 41 ff ff ff ff 07 0b", global(0x7f, false, 1<<31-1)},
		{6, "01 7f 00 41 80 80 80 80 78 0b", global(0x7f, false, 1<<31)},
		{6, "01 7e 00 42 00 0b", global(0x7e, false, 0)},
		{6, "01 7e 01 42 7f 0b", global(0x7e, true, 1<<64-1)},
		{6, "01 7e 00 42 80 80 80 80 78 0b", global(0x7e, false, 1<<64-1<<31)},
		{6, "01 7e 00 42 ff ff ff ff ff ff ff ff ff 00 0b", global(0x7e, false, 1<<63-1)},
		{6, "01 7e 00 42 80 80 80 80 80 80 80 80 80 7f 0b", global(0x7e, false, 1<<63)},
		{6, "02 7e 00 42 0b 0b 7f 01 41 42 0b", func(m *api.Module) {
			m.Globals = []api.Global{{Type: 0x7e, N: 11}, {Type: 0x7f, Mut: true, N: 1<<32 - 62}}
		}},
		{6, "20 " + repeat("7f 00 41 05 0b", 32), func(m *api.Module) {
			for range 32 {
				m.Globals = append(m.Globals, api.Global{Type: 0x7f, N: 5})
			}
		}},
	})
	faultAll(t, nil, countFaults(6, "", 32, repeat("7f 00 41 05 0b", 33)))
	faultAll(t, nil, kindFaults(6, "02 7f 00 41 05 0b", "00 41 05 0b"))
	faultAll(t, nil, byteFaults(6, "02 7f 00 41 05 0b 7f", "41 05 0b", "00 01", ""))
	faultAll(t, nil, byteFaults(6, "02 7f 00 41 05 0b 7f 00", "05 0b", "41 42", ""))
	faultAll(t, nil, byteFaults(6, "02 7f 00 41 05 0b 7e 01", "05 0b", "41 42", ""))
	faultAll(t, nil, byteFaults(6, "01 7f 00 41 05", "", "0b", ""))
	faultAll(t, nil, byteFaults(6, "01 7e 00 42 05", "", "0b", ""))
	faultAll(t, nil, []faultCase{
		{6, "01 7f 00 !42 05 0b", api.ErrType, "a first value of the wrong type"},
		{6, "01 7e 00 !41 05 0b", api.ErrType, "a first value of the wrong type"},
		{6, "01 7f 00 !42", api.ErrType, "a wrong type without a value"},
		{6, "01 7e 00 !41 80 80 80 80 80 00 00", api.ErrType, "a wrong type ahead of its number"},
		{6, "01 7e !02 41 05 0b", api.ErrForm, "a byte ahead of a wrong type"},
		{6, "01 7f 00 41 !", api.ErrEnd, "no value"},
		{6, "01 7e 00 42 80 80 80 80 80 80 80 80 80 !", api.ErrEnd, "a value that ends"},
		{6, "01 7f 00 41 80 80 80 80 !80 00 0b", api.ErrLeb, "a value of too many groups"},
		{6, "01 7f 00 41 80 80 80 80 !08 0b", api.ErrLeb, "a value of more than 32 bits"},
		{6, "01 7f 00 41 ff ff ff ff !77 0b", api.ErrLeb, "a value below 32 bits"},
		{6, "01 7e 00 42 80 80 80 80 80 80 80 80 80 !01 0b", api.ErrLeb, "a value of more than 64 bits"},
		{6, "01 7e 00 42 80 80 80 80 80 80 80 80 80 !80 00 0b", api.ErrLeb, "a value of too many groups"},
	})
}

func TestP41Exports(t *testing.T) {
	export := func(name string, kind, n int) func(m *api.Module) {
		return func(m *api.Module) { m.Exports = []api.Export{{Name: name, Kind: kind, N: n}} }
	}
	goodAll(t, nil, empty(), []goodCase{
		{7, "00", func(*api.Module) {}},
		{7, "01 00 00 00", export("", 0, 0)},
		{7, "01 01 61 00 07", export("a", 0, 7)},
		{7, "01 02 20 7e 02 00", export(" ~", 2, 0)},
		{7, "01 01 62 03 ff ff ff ff 0f", export("b", 3, 1<<32-1)},
		{7, "02 01 62 03 85 00 01 62 00 01", func(m *api.Module) {
			m.Exports = []api.Export{{Name: "b", Kind: 3, N: 5}, {Name: "b", N: 1}}
		}},
		{7, "20 " + repeat("01 61 00 00", 32), func(m *api.Module) {
			for range 32 {
				m.Exports = append(m.Exports, api.Export{Name: "a"})
			}
		}},
		{7, "01 20 " + repeat("2d", 32) + "00 00", export("--------------------------------", 0, 0)},
	})
	faultAll(t, nil, countFaults(7, "", 32, repeat("00 00 00", 33)))
	faultAll(t, nil, nameFaults(7, "02 00 00 00", "00 00"))
	faultAll(t, nil, byteFaults(7, "02 00 00 00 01 41", "00", "00 02 03", "01"))
	faultAll(t, nil, numberFaults(7, "02 00 00 00 01 41 03", ""))
	faultAll(t, nil, []faultCase{{7, "01 01 !7f 01 80", api.ErrName, "a name ahead of a kind"}})
}

func TestP41Start(t *testing.T) {
	start := func(n int) func(m *api.Module) { return func(m *api.Module) { m.Start = n } }
	goodAll(t, nil, empty(), []goodCase{
		{8, "00", start(0)},
		{8, "20", start(32)},
		{8, "85 80 00", start(5)},
		{8, "ff ff ff ff 0f", start(1<<32 - 1)},
	})
	faultAll(t, nil, numberFaults(8, "", ""))
}

func TestP41Datas(t *testing.T) {
	data := func(at int, b ...byte) func(m *api.Module) {
		return func(m *api.Module) { m.Datas = []api.Data{{At: at, Bytes: b}} }
	}
	goodAll(t, nil, empty(), []goodCase{
		{11, "00", func(*api.Module) {}},
		{11, "01 00 41 00 0b 00", data(0)},
		{11, "01 80 80 00 41 05 0b 83 00 00 7f ff", data(5, 0, 127, 255)},
		{11, "01 00 41 7f 0b 01 0b", data(1<<32-1, 11)},
		{11, "01 00 41 ff ff ff ff 7f 0b 00", data(1<<32 - 1)},
		{11, "01 00 41 80 80 80 80 78 0b 00", data(1 << 31)},
		{11, "01 00 41 ff ff ff ff 07 0b 00", data(1<<31 - 1)},
		{11, "01 00 41 40 0b 00", data(1<<32 - 64)},
		{11, "02 00 41 01 0b 01 02 00 41 03 0b 02 04 05", func(m *api.Module) {
			m.Datas = []api.Data{{At: 1, Bytes: []byte{2}}, {At: 3, Bytes: []byte{4, 5}}}
		}},
		{11, "20 " + repeat("00 41 05 0b 01 07", 32), func(m *api.Module) {
			for range 32 {
				m.Datas = append(m.Datas, api.Data{At: 5, Bytes: []byte{7}})
			}
		}},
		{11, "01 00 41 00 0b 80 20 " + repeat("77", 4096), data(0, bytes.Repeat([]byte{0x77}, 4096)...)},
	})
	faultAll(t, nil, countFaults(11, "", 32, repeat("00 41 05 0b 01 07", 33)))
	faultAll(t, nil, numberFaults(11, "02 00 41 05 0b 00", "41 05 0b 00"))
	faultAll(t, nil, byteFaults(11, "02 00 41 05 0b 00 00", "05 0b 00", "41", ""))
	faultAll(t, nil, byteFaults(11, "02 00 41 05 0b 00 00 41 05", "00", "0b", ""))
	faultAll(t, nil, countFaults(11, "01 00 41 05 0b", 4096, repeat("77", 4097)))
	faultAll(t, nil, []faultCase{
		{11, "01 !01 41 05 0b 00", api.ErrForm, "a memory that is not the first"},
		{11, "01 !81 00 41 05 0b 00", api.ErrForm, "such a one in two groups"},
		{11, "01 !80 01 42", api.ErrForm, "such a one ahead of another fault"},
		{11, "01 00 41 !", api.ErrEnd, "no place"},
		{11, "01 00 41 80 80 80 80 !80 00 0b 00", api.ErrLeb, "a place of too many groups"},
		{11, "01 00 41 80 80 80 80 !08 0b 00", api.ErrLeb, "a place of more than 32 bits"},
		{11, "01 00 41 05 0b 03 01 02 !", api.ErrEnd, "fewer bytes than told"},
		{11, "01 00 41 05 0b 80 20 " + repeat("77", 4095) + "!", api.ErrEnd, "one byte fewer"},
	})
}
