package typing_test

import (
	"slices"
	"strings"
	"testing"

	"bellcrank/api"
	"bellcrank/typing"
)

// sigIs holds SigOf against a type.
func sigIs(t *testing.T, m api.Module, n int, want string) {
	t.Helper()
	if s, ok := typing.SigOf(m, n); !ok || !equal(s, sig(want)) {
		t.Errorf("SigOf %d: %v %v, not %s", n, s, ok, want)
	}
}

// noSig holds SigOf against nothing.
func noSig(t *testing.T, m api.Module, n int) {
	t.Helper()
	if s, ok := typing.SigOf(m, n); ok || !equal(s, api.Sig{}) {
		t.Errorf("SigOf %d: %v %v, not nothing", n, s, ok)
	}
}

// P5.2: the types of imports, and of functions behind them; numbers that are none's.
func TestP52SigOf(t *testing.T) {
	m := bodyOf("iil>li", "")
	for n, text := range worldSigs() {
		sigIs(t, m, n, text)
	}
	sigIs(t, m, 3, "iil>li")
	outside := []int{-1, -2, -len(m.Imports), -worldFuncs, -1 << 31, -1 << 63, worldFuncs, worldFuncs + 1, 32, 1 << 32, 1<<63 - 1}
	for _, n := range outside {
		noSig(t, m, n)
	}
	m.Imports = nil
	sigIs(t, m, 0, "i>i")
	sigIs(t, m, 1, "iil>li")
	sigIs(t, m, 2, "li>il")
	noSig(t, m, 3)
	noSig(t, m, -1)
	m = world()
	m.Funcs = nil
	sigIs(t, m, 0, "il>l")
	sigIs(t, m, 1, ">")
	noSig(t, m, 2)
	for _, n := range append(outside, 0, 1) {
		noSig(t, api.Module{}, n)
		noSig(t, api.Module{Types: []api.Sig{sig("i>")}, Pages: -1, Start: -1}, n)
	}
}

// P5.2: a type that is not there; other functions keep theirs.
func TestP52SigOfNoType(t *testing.T) {
	for _, typ := range []int{-1 << 63, -1, len(world().Types), len(world().Types) + 1, 1 << 32, 1<<63 - 1} {
		for n := range worldFuncs {
			m := world()
			if n < 2 {
				m.Imports[n].Type = typ
			} else {
				m.Funcs[n-2].Type = typ
			}
			noSig(t, m, n)
			for other, text := range worldSigs() {
				if other != n {
					sigIs(t, m, other, text)
				}
			}
		}
	}
	m := world()
	m.Types = nil
	for n := range worldFuncs {
		noSig(t, m, n)
	}
}

// P5.2: SigOf asks of no more than the function and its type: the module need not be one that may be, nor one that is few.
func TestP52SigOfAnyModule(t *testing.T) {
	m := world()
	m.Pages, m.Start, m.Most = -7, 1<<40, -1
	m.Funcs[0].Body = ops("6a 05")
	m.Types = append(m.Types, make([]api.Sig, 100)...)
	m.Types = append(m.Types, api.Sig{In: []int{0, -1, 5}, Out: make([]int, 5000)})
	for n, text := range worldSigs() {
		sigIs(t, m, n, text)
	}
	m.Funcs[1].Type = len(m.Types) - 1
	if s, ok := typing.SigOf(m, 3); !ok || !slices.Equal(s.In, []int{0, -1, 5}) || len(s.Out) != 5000 {
		t.Error("SigOf of a type that may not be:", s.In, len(s.Out), ok)
	}
	m.Imports = make([]api.Import, 100)
	sigIs(t, m, 99, ">")
	sigIs(t, m, 100, "i>i")
	sigIs(t, m, 102, "li>il")
	noSig(t, m, 103)
}

// finds holds Find against an Export.
func finds(t *testing.T, m api.Module, name string, want api.Export) {
	t.Helper()
	if e, ok := typing.Find(m, name); !ok || e != want {
		t.Errorf("Find %q: %v %v, not %v", name, e, ok, want)
	}
}

func findsNone(t *testing.T, m api.Module, name string) {
	t.Helper()
	if e, ok := typing.Find(m, name); ok || e != (api.Export{}) {
		t.Errorf("Find %q: %v %v, not nothing", name, e, ok)
	}
}

// P5.2: the first Export of a name.
func TestP52Find(t *testing.T) {
	m := world()
	for _, name := range []string{"", "a", "env", "tell"} {
		findsNone(t, m, name)
		findsNone(t, api.Module{}, name)
	}
	l := []api.Export{{Name: "a", N: 2}, {Name: "b", Kind: 2}, {Name: "", Kind: 3, N: 3}, {Name: "aa", N: 4}, {Name: "A", Kind: 3}, {Name: "z", N: 1}}
	m.Exports = l
	for _, e := range l {
		finds(t, m, e.Name, e)
	}
	long := strings.Repeat("a", 40)
	for _, name := range []string{"c", "ab", "ba", "aaa", "B", " ", "a ", " a", "\x00", "a\x00", long, "env"} {
		findsNone(t, m, name)
	}
	m.Exports = l[:2]
	findsNone(t, m, "")
	findsNone(t, m, "z")
	// Of several of a name the first one, also where that is not there, or no module may have it.
	m.Exports = []api.Export{{Name: "b", N: 5}, {Name: "a", Kind: 9, N: -1}, {Name: "a", N: 1}, {Name: "a", Kind: 2}, {Name: "b"}, {Name: long, N: 8}, {Name: "\xff"}}
	finds(t, m, "a", api.Export{Name: "a", Kind: 9, N: -1})
	finds(t, m, "b", api.Export{Name: "b", N: 5})
	finds(t, m, long, api.Export{Name: long, N: 8})
	finds(t, m, "\xff", api.Export{Name: "\xff"})
	m.Exports = []api.Export{{Name: "", N: 7}, {Name: "", Kind: 3}}
	finds(t, m, "", api.Export{N: 7})
	m.Exports = append(slices.Repeat([]api.Export{{Name: "x"}}, 100), api.Export{Name: "last", N: 100})
	finds(t, m, "last", api.Export{Name: "last", N: 100})
}

// P5.2: how many operators there are, with those within blocks.
func TestP52Count(t *testing.T) {
	for text, want := range map[string]int{
		"":                     0,
		"01":                   1,
		"6a 6a 6a":             3,
		"02 end":               1,
		"02 01 end":            2,
		"02 01 end 01":         3,
		"04 01 else 01 01 end": 4,
		"04 else end":          1,
		"04 else 01 end 01":    3,
		"02 03 04 01 else 02 end 01 end 01 end 01 end 01":                                    9,
		"04 04 01 else 01 end else 04 01 else 01 end end":                                    7,
		"02 end 02 end 03 02 02 end end end":                                                 5,
		strings.Repeat("02 ", 16) + "01":                                                     17,
		strings.Repeat("02 ", 300) + "01":                                                    301,
		strings.Repeat("04 else ", 300) + "01":                                               301,
		strings.Repeat("01 ", 511):                                                           511,
		strings.Repeat("01 ", 512):                                                           512,
		strings.Repeat("01 ", 513):                                                           513,
		strings.Repeat("01 ", 514):                                                           513,
		strings.Repeat("01 ", 5000):                                                          513,
		"02 " + strings.Repeat("01 ", 511) + "end":                                           512,
		"02 " + strings.Repeat("01 ", 512) + "end":                                           513,
		"02 " + strings.Repeat("01 ", 513) + "end":                                           513,
		"02 " + strings.Repeat("01 ", 700) + "end 01 01":                                     513,
		"04 else " + strings.Repeat("01 ", 511) + "end":                                      512,
		"04 else " + strings.Repeat("01 ", 511) + "end 01":                                   513,
		"04 else " + strings.Repeat("01 ", 511) + "end 01 01":                                513,
		strings.Repeat("02 ", 511) + "01":                                                    512,
		strings.Repeat("02 ", 512) + "01":                                                    513,
		strings.Repeat("02 ", 600) + "01":                                                    513,
		strings.Repeat("04 01 else 01 end ", 170):                                            510,
		strings.Repeat("04 01 else 01 end ", 170) + "01 01":                                  512,
		strings.Repeat("04 01 else 01 end ", 171):                                            513,
		strings.Repeat("04 01 else 01 end ", 172):                                            513,
		"04 " + strings.Repeat("01 ", 300) + "else " + strings.Repeat("01 ", 211) + "end":    512,
		"04 " + strings.Repeat("01 ", 300) + "else " + strings.Repeat("01 ", 212) + "end":    513,
		"04 " + strings.Repeat("01 ", 300) + "else " + strings.Repeat("01 ", 300) + "end 01": 513,
	} {
		if n := typing.Count(ops(text)); n != want {
			t.Errorf("Count of %.60s: %d, not %d", text, n, want)
		}
	}
}

// R1: operators within themselves, and more than can be gone through one by one.
func TestR1CountEnds(t *testing.T) {
	l := []api.Instr{{Op: 2}, {Op: 4, HasElse: true}}
	l[0].Body = l
	if n := typing.Count(l); n != 513 {
		t.Error("Count of operators within themselves:", n)
	}
	l = []api.Instr{{Op: 4, HasElse: true}}
	l[0].Else = l
	if n := typing.Count(l); n != 513 {
		t.Error("Count of operators in their own Else:", n)
	}
	l[0].Body = l
	if n := typing.Count(l); n != 513 {
		t.Error("Count of operators in both:", n)
	}
	l = ops("01")
	for range 60 {
		l = []api.Instr{{Op: 2, Body: l}, {Op: 3, Body: l}}
	}
	if n := typing.Count(l); n != 513 {
		t.Error("Count of operators that share what is in them:", n)
	}
	m := bodyOf(">", "")
	m.Funcs[under].Body = l
	if f := typing.Check(m); f != whole(api.ErrMany) {
		t.Error("Check of operators that share what is in them:", f)
	}
}
