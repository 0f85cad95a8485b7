package typing_test

import (
	"slices"
	"strconv"
	"strings"
	"testing"

	"bellcrank/api"
)

// The operators of accesses and of numbers, from the first to the last one of each run, with what they take and answer.
const (
	accessRows = "28-28 i>i 29-29 i>l 2c-2f i>i 30-35 i>l 36-36 ii> 37-37 il> 3a-3b ii> 3c-3e il>"
	numberRows = "45-45 i>i 46-4f ii>i 50-50 l>i 51-5a ll>i 67-69 i>i 6a-78 ii>i 79-7b l>l 7c-8a ll>l a7-a7 l>i ac-ad i>l c0-c1 i>i c2-c4 l>l"
	memoryRows = "3f-3f >i 40-40 i>i"
	otherRows  = "01-01 > 41-41 >i 42-42 >l"
)

// rowsOf are the operators of some runs, each with what it takes and answers.
func rowsOf(text string) map[int]string {
	rows := map[int]string{}
	words := strings.Fields(text)
	for i := 0; i < len(words); i += 2 {
		for op := number(words[i][:2], 16); op <= number(words[i][3:], 16); op++ {
			rows[int(op)] = words[i+1]
		}
	}
	return rows
}

// hex2 is a byte in hexadecimal, of two digits.
func hex2(c int) string {
	const digits = "0123456789abcdef"
	return string([]byte{digits[c/16], digits[c%16]})
}

// row holds operators, of which the first one takes and the last one answers: each type missing, each the wrong one, and each answer another one.
func row(t *testing.T, text, typ string) {
	t.Helper()
	takes, answers, _ := strings.Cut(typ, ">")
	bodyPasses(t, ">"+answers, pushes(takes)+text)
	bodyPasses(t, ">l"+answers, pushes("l"+takes)+text)
	bodyPasses(t, ">i"+answers, pushes("i"+takes)+text)
	bodyPasses(t, ">"+answers, "00 "+text)
	bodyPasses(t, ">"+answers, "02>"+answers+" "+pushes(takes)+text+" end")
	for i := range len(takes) {
		under, rest := takes[:i], takes[i+1:]
		bodyFails(t, api.ErrType, ">"+answers, pushes(rest)+"!"+text)
		bodyFails(t, api.ErrType, ">"+answers, pushes(takes)+"02>"+answers+" "+pushes(rest)+"!"+text+" end")
		bodyFails(t, api.ErrType, ">"+answers, pushes(under+other(takes[i])+rest)+"!"+text)
		bodyPasses(t, ">"+answers, "00 "+pushes(rest)+text)
		bodyFails(t, api.ErrType, ">"+answers, "00 "+pushes(other(takes[i])+rest)+"!"+text)
	}
	for i := range len(answers) {
		bodyFails(t, api.ErrType, ">"+answers[:i]+other(answers[i])+answers[i+1:], pushes(takes)+text+" !")
		bodyFails(t, api.ErrType, ">"+answers[:i]+other(answers[i])+answers[i+1:], "00 "+text+" !")
		bodyFails(t, api.ErrType, ">"+answers[i+1:], pushes(takes)+text+" !")
		bodyFails(t, api.ErrType, ">"+answers[i+1:], "00 "+text+" !")
	}
	for _, more := range []string{"i", "l"} {
		bodyFails(t, api.ErrType, ">"+more+answers, pushes(takes)+text+" !")
		bodyFails(t, api.ErrType, ">"+answers, pushes(more+takes)+text+" !")
		bodyPasses(t, ">"+more+answers, "00 "+text)
	}
}

// P5.1: the operators of constants, of numbers, and of memories.
func TestP51PlainRows(t *testing.T) {
	for _, rows := range []string{otherRows, numberRows, memoryRows, accessRows} {
		for op, typ := range rowsOf(rows) {
			row(t, hex2(op), typ)
		}
	}
	if have := len(rowsOf(numberRows)); have != 66 {
		t.Error("the test's own rows have", have, "operators of numbers")
	}
	if have := len(rowsOf(accessRows)); have != 19 {
		t.Error("the test's own rows have", have, "accesses")
	}
}

// P5.1: an access, and what asks for pages, where there is no memory. That comes ahead of what is taken.
func TestP51NoMemory(t *testing.T) {
	for _, rows := range []string{memoryRows, accessRows} {
		for op, typ := range rowsOf(rows) {
			takes, answers, _ := strings.Cut(typ, ">")
			for _, ahead := range []string{pushes(takes), "", pushes("l"), pushes("li"), "00 ", "00 " + pushes("l"), "02 ", "04>i "} {
				m := bodyOf(">"+answers, ahead+hex2(op))
				m.Pages, m.Most = 0, 0
				pages := m
				m.Pages = -1
				_, at := marked(ahead)
				if strings.HasPrefix(ahead, "04") {
					m.Funcs[under].Body = append(ops("41"), m.Funcs[under].Body...)
					at++
				}
				checks(t, ahead+hex2(op)+" without a memory", m, api.Fault{Why: api.ErrIndex, At: under, Op: at})
				if ahead == pushes(takes) || ahead == "00 " {
					passes(t, ahead+hex2(op)+" with a memory without pages", pages)
				}
			}
		}
	}
	m := bodyOf(">", "")
	m.Pages, m.Most = -1, 0
	for _, rows := range []string{otherRows, numberRows} {
		for op, typ := range rowsOf(rows) {
			takes, answers, _ := strings.Cut(typ, ">")
			put(&m, under, ">"+answers, "", pushes(takes)+hex2(op))
			passes(t, hex2(op)+" needs no memory", m)
		}
	}
}

// index holds an operator with a number that is not there, whatever lies on the stack: that comes ahead of what is taken.
func index(t *testing.T, op string, count int) {
	t.Helper()
	for _, n := range []int{count, count + 1, 32, 33, 300, 1 << 20, 1 << 31, 1<<32 - 1} {
		text := "!" + op + ":" + strconv.Itoa(n)
		for _, ahead := range []string{"", "41 ", "42 ", "41 42 ", "42 41 41 ", "00 ", "00 41 ", "00 42 ", "41 42 02 "} {
			bodyFails(t, api.ErrIndex, ">", ahead+text)
		}
	}
}

// P5.1: calls of each function, imported ones too, and of its own.
func TestP51Calls(t *testing.T) {
	for n, typ := range worldSigs() {
		row(t, "10:"+strconv.Itoa(n), typ)
	}
	bodyPasses(t, "li>iii", "20:0 20:1 10:3")
	bodyFails(t, api.ErrType, "li>iii", "20:1 20:0 !10:3")
	index(t, "10", worldFuncs)
	m := bodyOf(">", "10:0")
	m.Imports, m.Funcs[0] = nil, api.Func{}
	passes(t, "without imports the first function is the first one", m)
	m.Funcs[under].Body = ops("10:3")
	checks(t, "without imports there are two fewer", m, api.Fault{Why: api.ErrIndex, At: under})
}

// P5.1: locals are the function's arguments, then its own.
func TestP51LocalOperators(t *testing.T) {
	for n, c := range []string{"i", "l", "l", "l", "i"} {
		local := strconv.Itoa(n)
		typ := "ill>"
		bodyPasses(t, typ+c, "20:"+local)
		bodyFails(t, api.ErrType, typ+other(c[0]), "20:"+local+" !")
		bodyFails(t, api.ErrType, typ, "20:"+local+" !")
		bodyPasses(t, typ, pushes(c)+"21:"+local)
		bodyPasses(t, typ, "00 21:"+local)
		bodyFails(t, api.ErrType, typ, "!21:"+local)
		bodyFails(t, api.ErrType, typ, pushes(other(c[0]))+"!21:"+local)
		bodyFails(t, api.ErrType, typ, pushes(c)+"02 !21:"+local+" end")
		bodyFails(t, api.ErrType, typ, "00 "+pushes(other(c[0]))+"!21:"+local)
		bodyFails(t, api.ErrType, typ+c, pushes(c)+"21:"+local+" !")
		bodyPasses(t, typ+c, pushes(c)+"22:"+local)
		bodyPasses(t, typ+c, "00 22:"+local)
		bodyFails(t, api.ErrType, typ+c, "!22:"+local)
		bodyFails(t, api.ErrType, typ+c, pushes(other(c[0]))+"!22:"+local)
		bodyFails(t, api.ErrType, typ, pushes(c)+"22:"+local+" !")
		bodyFails(t, api.ErrType, typ+other(c[0]), "00 22:"+local+" !")
	}
	for _, op := range []string{"20", "21", "22"} {
		index(t, op, 2)
		bodyFails(t, api.ErrIndex, "ill>", "41 !"+op+":5")
		m := bodyOf("", "")
		m.Funcs[under].Locals, m.Funcs[under].Body = nil, ops(op+":0")
		checks(t, "no local", m, api.Fault{Why: api.ErrIndex, At: under})
	}
	typ, own := "iiiiiiil>", strings.Repeat("l", 24)
	m := world()
	put(&m, under, typ, own, "20:31 21:7 20:7 21:31 42 22:8 1a")
	passes(t, "as many locals as may be", m)
	put(&m, under, typ, own, "20:32")
	checks(t, "one more", m, api.Fault{Why: api.ErrIndex, At: under})
}

// P5.1: globals, and those that may not be written.
func TestP51Globals(t *testing.T) {
	for n, c := range []string{"i", "l", "i", "l"} {
		global := strconv.Itoa(n)
		row(t, "23:"+global, ">"+c)
		if n < 2 {
			row(t, "24:"+global, c+">")
			continue
		}
		for _, ahead := range []string{"", "00 ", pushes(c), pushes(other(c[0])), "00 " + pushes(c), "00 " + pushes(other(c[0]))} {
			bodyFails(t, api.ErrForm, ">", ahead+"!24:"+global)
		}
	}
	index(t, "23", 4)
	index(t, "24", 4)
	m := bodyOf(">", "00 24:0")
	m.Globals = nil
	checks(t, "no globals", m, api.Fault{Why: api.ErrIndex, At: under, Op: 1})
}

// P5.1: 1a takes whatever is there.
func TestP51Drop(t *testing.T) {
	bodyPasses(t, ">", "41 1a")
	bodyPasses(t, ">", "42 1a")
	bodyPasses(t, ">i", "41 42 1a")
	bodyPasses(t, ">l", "42 41 1a")
	bodyPasses(t, ">", "00 1a 1a 1a")
	bodyPasses(t, ">l", "00 41 1a")
	bodyPasses(t, ">", "41 42 1a 1a")
	bodyPasses(t, ">", "00 1b 1a")
	bodyFails(t, api.ErrType, ">", "!1a")
	bodyFails(t, api.ErrType, ">", "41 1a !1a")
	bodyFails(t, api.ErrType, ">", "41 02 !1a end")
	bodyFails(t, api.ErrType, ">", "00 02 !1a end")
	bodyFails(t, api.ErrType, ">", "41 42 1a !")
	bodyFails(t, api.ErrType, ">l", "41 42 1a !")
	bodyFails(t, api.ErrType, ">", "00 41 42 1a !")
}

// P5.1: 1b takes an I32 and two of one type, of which any may be any.
func TestP51Select(t *testing.T) {
	for _, c := range []string{"i", "l"} {
		d := other(c[0])
		bodyPasses(t, ">"+c, pushes(c+c+"i")+"1b")
		bodyPasses(t, ">"+d+c, pushes(d+c+c+"i")+"1b")
		bodyFails(t, api.ErrType, ">"+d, pushes(c+c+"i")+"1b !")
		bodyFails(t, api.ErrType, ">", pushes(c+c+"i")+"1b !")
		bodyFails(t, api.ErrType, ">"+c, pushes(c+c+"l")+"!1b")
		bodyFails(t, api.ErrType, ">"+c, pushes(c+d+"i")+"!1b")
		bodyFails(t, api.ErrType, ">"+c, pushes(d+c+"i")+"!1b")
		bodyFails(t, api.ErrType, ">"+c, pushes(c+"i")+"!1b")
		bodyFails(t, api.ErrType, ">"+c, pushes(c+c+"i")+"02>"+c+" "+pushes(c+"i")+"!1b end")
		// Of a dead frame: one of them is there, or both, or only the I32.
		bodyPasses(t, ">"+c, "00 "+pushes(c+c+"i")+"1b")
		bodyPasses(t, ">"+c, "00 "+pushes(c+"i")+"1b")
		bodyPasses(t, ">"+c, "00 "+pushes("i")+"1b")
		bodyPasses(t, ">"+c, "00 1b")
		bodyFails(t, api.ErrType, ">"+d, "00 "+pushes(c+c+"i")+"1b !")
		bodyFails(t, api.ErrType, ">"+d, "00 "+pushes(c+"i")+"1b !")
		bodyFails(t, api.ErrType, ">"+c, "00 "+pushes(c+"l")+"!1b")
		bodyFails(t, api.ErrType, ">"+c, "00 "+pushes("l")+"!1b")
		bodyFails(t, api.ErrType, ">"+c, "00 "+pushes(c+d+"i")+"!1b")
		// Any that was answered is any again.
		bodyPasses(t, ">"+c, "00 1b 1b")
		bodyPasses(t, ">"+c, "00 1b "+pushes(c+"i")+"1b")
		bodyFails(t, api.ErrType, ">"+d, "00 1b "+pushes(c+"i")+"1b !")
		bodyPasses(t, ">"+d+c, "00 1b "+pushes(c))
		bodyPasses(t, ">", "00 1b "+map[string]string{"i": "45", "l": "50"}[c]+" 1a")
		bodyPasses(t, ">", "00 1b 02"+c+"> 1a end")
		bodyPasses(t, ">"+c, "00 1b 0c:0")
		bodyPasses(t, c+">", "00 1b 21:0")
		bodyFails(t, api.ErrType, ">", "00 1b !")
		bodyFails(t, api.ErrType, ">", "00 1b "+pushes(c+"i")+"1b !")
	}
	bodyFails(t, api.ErrType, ">", "!1b")
	bodyFails(t, api.ErrType, ">", "41 !1b")
	bodyFails(t, api.ErrType, ">", "42 42 !1b")
	bodyFails(t, api.ErrType, ">", "00 02 !1b end")
}

// P5.1: blocks take and answer what their types say, as operators do.
func TestP51BlocksAsRows(t *testing.T) {
	for _, typ := range []string{">", "i>", "l>", ">i", ">l", "i>i", "i>l", "l>i", "l>l", "il>l", "li>il", "ii>ii", "ill>lli", ">liliill", "iiiillll>i"} {
		takes, _, _ := strings.Cut(typ, ">")
		row(t, "02"+typ+" 00 end", typ)
		row(t, "03"+typ+" 00 end", typ)
		row(t, "04"+typ+" 00 else 00 end", takes+"i"+typ[len(takes):])
	}
	for _, typ := range []string{">", "i>i", "l>l", "li>li", "iil>iil"} {
		takes, _, _ := strings.Cut(typ, ">")
		row(t, "02"+typ+" end", typ)
		row(t, "03"+typ+" end", typ)
		row(t, "04"+typ+" end", takes+"i"+typ[len(takes):])
		row(t, "04"+typ+" else end", takes+"i"+typ[len(takes):])
	}
}

// P5.1: an operator of each byte that may be has a row here; slices of the document's own tables are whole.
func TestP51AllOperators(t *testing.T) {
	var have []int
	for _, rows := range []string{otherRows, numberRows, memoryRows, accessRows, "00-00 > 02-04 > 0c-10 > 1a-1b > 20-24 >"} {
		for op := range rowsOf(rows) {
			have = append(have, op)
		}
	}
	slices.Sort(have)
	if len(have) != 5+3+8+2+19+3+66 || len(slices.Compact(have)) != len(have) {
		t.Error("the test's own rows have", len(have), "operators")
	}
}
