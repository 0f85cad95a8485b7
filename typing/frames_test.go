package typing_test

import (
	"slices"
	"strconv"
	"strings"
	"testing"

	"bellcrank/api"
)

// P5.1: what a frame begins with, and what must lie on its stack at its end. A fault there is told at the block's own operator.
func TestP51BlocksEnds(t *testing.T) {
	for _, op := range []string{"02", "03"} {
		bodyPasses(t, ">", op+" end")
		bodyPasses(t, ">", op+" 01 end 01")
		bodyPasses(t, ">i", op+">i 41 end")
		bodyPasses(t, ">i", "41 "+op+"i>i end")
		bodyPasses(t, ">l", "41 "+op+"i>l 1a 42 end")
		bodyPasses(t, ">", "41 42 "+op+"il> 1a 21:1 end")
		bodyPasses(t, ">li", op+">li 42 41 end")
		bodyPasses(t, ">ili", "41 "+op+">li 42 41 end")
		bodyFails(t, api.ErrType, ">i", "!"+op+">i end")
		bodyFails(t, api.ErrType, ">i", "!"+op+">i 42 end")
		bodyFails(t, api.ErrType, ">i", "41 01 !"+op+">i 42 01 01 end 01 01")
		bodyFails(t, api.ErrType, ">", "!"+op+" 41 end")
		bodyFails(t, api.ErrType, ">", "!"+op+" 01 42 end 01")
		bodyFails(t, api.ErrType, ">i", "!"+op+">i 41 41 end")
		bodyFails(t, api.ErrType, ">i", "!"+op+">i 42 41 end")
		bodyFails(t, api.ErrType, ">i", "42 !"+op+">i 41 42 end")
		bodyFails(t, api.ErrType, ">i", "41 !"+op+">i end")
		bodyFails(t, api.ErrType, ">", "41 !"+op+"i> end")
		bodyFails(t, api.ErrType, ">l", "41 !"+op+"i>l end")
		bodyFails(t, api.ErrType, ">li", "!"+op+">li 41 42 end")
		bodyFails(t, api.ErrType, ">li", "!"+op+">li 41 end")
		// The types of what is around do not reach in, and what is left does not reach out.
		bodyFails(t, api.ErrType, ">", "41 "+op+" !1a end")
		bodyFails(t, api.ErrType, ">", "41 "+op+"i> 1a !1a end")
		bodyFails(t, api.ErrType, ">i", op+" end !")
		bodyFails(t, api.ErrType, ">i", "41 "+op+"i> 1a end !")
		// The inner one of two is told first, the outer one at its own operator.
		bodyFails(t, api.ErrType, ">i", op+">i !02 41 end 41 end")
		bodyFails(t, api.ErrType, ">i", "01 !"+op+">i 02 01 end 01 03 end end 01")
		bodyFails(t, api.ErrType, ">i", op+">i 01 !03>l 41 end end")
		bodyFails(t, api.ErrType, ">i", "!"+op+">i 01 03>l 42 end end")
	}
}

// P5.1: an if, with and without an Else.
func TestP51If(t *testing.T) {
	bodyPasses(t, ">", "41 04 end")
	bodyPasses(t, ">", "41 04 01 else 01 end")
	bodyPasses(t, ">i", "41 04>i 41 else 41 end")
	bodyPasses(t, ">i", "41 41 04i>i end")
	bodyPasses(t, ">i", "41 41 04i>i 45 end")
	bodyPasses(t, ">i", "41 41 04i>i else 45 end")
	bodyPasses(t, ">l", "41 41 04i>l ac else 1a 42 end")
	bodyPasses(t, ">", "41 41 04i> 1a else 21:1 end")
	bodyPasses(t, ">il", "41 42 41 04il>il end")
	bodyPasses(t, ">ill", "41 42 41 04>l 42 else 42 end")
	// The I32 is on top, and what is taken beneath it.
	bodyFails(t, api.ErrType, ">", "!04 end")
	bodyFails(t, api.ErrType, ">", "42 !04 end")
	bodyFails(t, api.ErrType, ">l", "41 42 !04l>l end")
	bodyFails(t, api.ErrType, ">l", "41 41 !04l>l end")
	bodyFails(t, api.ErrType, ">l", "41 !04l>l end")
	bodyFails(t, api.ErrType, ">", "41 02 !04 end end")
	// Each branch's end is told at the if.
	for _, c := range []string{"", "42", "41 41", "42 41"} {
		bodyFails(t, api.ErrType, ">i", "41 !04>i "+c+" else 41 end")
		bodyFails(t, api.ErrType, ">i", "01 41 !04>i 01 41 else 01 "+c+" end 01")
	}
	for _, c := range []string{"41", "42"} {
		bodyFails(t, api.ErrType, ">", "41 !04 "+c+" end")
		bodyFails(t, api.ErrType, ">", "41 !04 "+c+" else end")
		bodyFails(t, api.ErrType, ">", "41 !04 else "+c+" end")
		bodyFails(t, api.ErrType, ">", "41 41 !04i> 1a else end")
	}
	// The Else begins with what is taken, too, and not with what the first branch left.
	bodyPasses(t, ">i", "41 41 04i>i 01 else 01 end")
	bodyFails(t, api.ErrType, ">i", "41 !04>i 41 else end")
	bodyFails(t, api.ErrType, ">i", "41 04>i 41 else !1a 41 end")
	bodyFails(t, api.ErrType, ">i", "41 41 04i>i else 1a !1a 41 end")
	// The first branch's faults come first, its end ahead of what is in the Else.
	bodyFails(t, api.ErrType, ">i", "41 04>i 01 !6a else 6a end")
	bodyFails(t, api.ErrType, ">i", "41 !04>i 01 else 6a end")
	bodyFails(t, api.ErrType, ">i", "41 04>i 01 41 else 01 !6a end")
	bodyFails(t, api.ErrType, ">i", "41 04>i 41 else !04 end 41 end")
	// A dead branch does not make the other one so, nor what follows.
	bodyPasses(t, ">i", "41 04>i 00 else 41 end")
	bodyPasses(t, ">i", "41 04>i 41 else 00 end")
	bodyPasses(t, ">i", "41 04>i 00 else 00 end")
	bodyFails(t, api.ErrType, ">i", "41 !04>i 00 else end")
	bodyFails(t, api.ErrType, ">i", "41 !04>i else 00 end")
	bodyFails(t, api.ErrType, ">i", "41 04 00 else 00 end !")
	bodyFails(t, api.ErrType, ">", "41 04 00 else 00 end !1a")
}

// P5.1: an if without an Else answers what it takes.
func TestP51IfWithoutElse(t *testing.T) {
	for _, typ := range []string{">i", ">l", "i>", "l>", "i>l", "l>i", "ii>i", "i>ii", "il>li", ">ii", "il>ill"} {
		takes, answers, _ := strings.Cut(typ, ">")
		bodyFails(t, api.ErrType, ">"+answers, pushes(takes)+"41 !04"+typ+" 00 end")
		bodyFails(t, api.ErrType, ">"+answers, pushes(takes)+"41 !04"+typ+" "+strings.Repeat("1a ", len(takes))+pushes(answers)+"end")
		bodyFails(t, api.ErrType, ">"+answers, "00 !04"+typ+" 00 end")
		bodyPasses(t, ">"+answers, pushes(takes)+"41 04"+typ+" 00 else 00 end")
		bodyPasses(t, ">"+answers, pushes(takes)+"02"+typ+" 00 end")
		bodyPasses(t, ">"+answers, pushes(takes)+"03"+typ+" 00 end")
	}
}

// P5.1: the label of each frame.
func TestP51Labels(t *testing.T) {
	for _, c := range []struct{ open, takes, label, behind string }{
		{"02i>l", "i", "l", "end"},
		{"02il>li", "il", "li", "end"},
		{"03i>l", "i", "i", "end"},
		{"03il>l", "il", "il", "end"},
		{"03>l", "", "", "end"},
		{"04i>l", "ii", "l", "else 1a 42 end"},
		{"04il>li", "ili", "li", "else 1a 1a 42 41 end"},
		{"04i>l 1a 42 else", "ii", "l", "end"},
		{"04i>li 1a 42 41 else", "ii", "li", "end"},
	} {
		typ, _, _ := strings.Cut(c.open[2:], " ")
		in, out, _ := strings.Cut(typ, ">")
		drops := strings.Repeat("1a ", len(in))
		open := pushes(c.takes) + c.open + " " + drops
		bodyPasses(t, ">"+out, open+pushes(c.label)+"0c:0 "+c.behind)
		bodyPasses(t, ">"+out, open+pushes(c.label)+"41 0d:0 00 "+c.behind)
		bodyPasses(t, ">"+out, open+pushes(c.label)+"41 0e:0 "+c.behind)
		bodyPasses(t, ">"+out, open+"02 "+pushes(c.label)+"0c:1 end 00 "+c.behind)
		bodyPasses(t, ">"+out, open+"41 04 00 else "+pushes(c.label)+"0c:1 end 00 "+c.behind)
		for i := range len(c.label) {
			wrong := c.label[:i] + other(c.label[i]) + c.label[i+1:]
			bodyFails(t, api.ErrType, ">"+out, open+pushes(wrong)+"!0c:0 "+c.behind)
			bodyFails(t, api.ErrType, ">"+out, open+pushes(wrong)+"41 !0d:0 00 "+c.behind)
			bodyFails(t, api.ErrType, ">"+out, open+pushes(wrong)+"41 !0e:0 "+c.behind)
			bodyFails(t, api.ErrType, ">"+out, open+pushes(c.label[i+1:])+"!0c:0 "+c.behind)
			bodyFails(t, api.ErrType, ">"+out, open+pushes(c.label[i+1:])+"41 !0d:0 00 "+c.behind)
			bodyFails(t, api.ErrType, ">"+out, open+"02 "+pushes(wrong)+"!0c:1 end 00 "+c.behind)
		}
	}
	// The body's own frame has what the function answers.
	for _, typ := range []string{">", "l>i", "i>l", "l>li", "ii>il"} {
		_, answers, _ := strings.Cut(typ, ">")
		bodyPasses(t, typ, pushes(answers)+"0c:0")
		bodyPasses(t, typ, "02 03 "+pushes(answers)+"0c:2 end end 00")
		for i := range len(answers) {
			bodyFails(t, api.ErrType, typ, pushes(answers[:i]+other(answers[i])+answers[i+1:])+"!0c:0")
			bodyFails(t, api.ErrType, typ, pushes(answers[i+1:])+"!0c:0")
			bodyFails(t, api.ErrType, typ, pushes(answers)+"02 !0c:1 end 00")
		}
	}
}

// P5.1: which frames there are. What is not there comes ahead of what is taken.
func TestP51Depths(t *testing.T) {
	opens := []string{"", "02 ", "03 ", "41 04 ", "02 03 ", "41 04 else 02 ", "02 03 02 03 ", "02 end 03 end 02 ", strings.Repeat("03 ", 16)}
	for _, open := range opens {
		frames := 1 + strings.Count(open, "02") + strings.Count(open, "03") + strings.Count(open, "04") - strings.Count(open, "end")
		for n := range frames {
			bodyPasses(t, ">", open+"0c:"+strconv.Itoa(n))
			bodyPasses(t, ">", open+"41 0d:"+strconv.Itoa(n))
			bodyPasses(t, ">", open+"41 0e:"+strconv.Itoa(n))
			bodyPasses(t, ">", open+"41 0e:"+strconv.Itoa(n)+",0")
			bodyFails(t, api.ErrType, ">", open+"!0d:"+strconv.Itoa(n))
			bodyFails(t, api.ErrType, ">", open+"!0e:"+strconv.Itoa(n))
		}
		for _, n := range []int{frames, frames + 1, 17, 1 << 20, 1<<32 - 1} {
			for _, ahead := range []string{"", "41 ", "42 ", "00 "} {
				bodyFails(t, api.ErrIndex, ">", open+ahead+"!0c:"+strconv.Itoa(n))
				bodyFails(t, api.ErrIndex, ">", open+ahead+"!0d:"+strconv.Itoa(n))
			}
			for _, targets := range []string{"", "0,", "0,0,"} {
				bodyFails(t, api.ErrIndex, ">", open+"41 !0e:"+targets+strconv.Itoa(n))
				bodyFails(t, api.ErrIndex, ">", open+"41 !0e:"+strconv.Itoa(n)+","+targets+"0")
				bodyFails(t, api.ErrType, ">", open+"!0e:"+targets+strconv.Itoa(n))
				bodyFails(t, api.ErrType, ">", open+"42 !0e:"+targets+strconv.Itoa(n))
			}
		}
	}
}

// P5.1: 0d takes the label, and answers it.
func TestP51BranchIf(t *testing.T) {
	bodyPasses(t, ">", "41 0d:0")
	bodyPasses(t, ">", "02 41 0d:0 end")
	bodyFails(t, api.ErrType, ">", "!0d:0")
	bodyFails(t, api.ErrType, ">", "42 !0d:0")
	bodyFails(t, api.ErrType, ">", "41 02 !0d:0 end")
	bodyPasses(t, ">il", "02>l 42 41 0d:0 1a 41 42 0c:1 end 1a 41 42")
	bodyPasses(t, ">il", "41 42 41 0d:0")
	bodyPasses(t, ">il", "42 41 42 41 0d:0 0c:0")
	bodyPasses(t, ">l", "42 41 0d:0 42 7c")
	bodyFails(t, api.ErrType, ">l", "42 !0d:0")
	bodyFails(t, api.ErrType, ">l", "41 42 !0d:0")
	bodyFails(t, api.ErrType, ">l", "41 !0d:0")
	bodyFails(t, api.ErrType, ">l", "41 41 !0d:0")
	bodyFails(t, api.ErrType, ">l", "42 41 02 !0d:1 end")
	bodyFails(t, api.ErrType, ">l", "42 02 41 !0d:1 end")
	bodyFails(t, api.ErrType, ">l", "42 42 41 0d:0 !")
	bodyFails(t, api.ErrType, ">", "41 0d:0 !1a")
	// Of a dead frame: what it answers has the label's types, also where any was taken.
	bodyPasses(t, ">l", "00 0d:0")
	bodyPasses(t, ">l", "00 41 0d:0")
	bodyPasses(t, ">l", "00 42 41 0d:0")
	bodyPasses(t, ">l", "00 1b 41 0d:0")
	bodyFails(t, api.ErrType, ">l", "00 42 !0d:0")
	bodyFails(t, api.ErrType, ">l", "00 41 41 !0d:0")
	bodyFails(t, api.ErrType, ">l", "00 0d:0 !45")
	bodyFails(t, api.ErrType, ">l", "02>i 00 0d:1 !45 end")
	bodyFails(t, api.ErrType, ">l", "00 41 0d:0 !45")
}

// P5.1: 0e: the last target first, then the others in order.
func TestP51Table(t *testing.T) {
	row(t, "02 41 0e:0 end", ">")
	bodyPasses(t, ">", "41 0e:0")
	bodyPasses(t, ">", "41 0e:0,0,0")
	bodyPasses(t, ">i", "41 41 0e:0,0")
	bodyPasses(t, ">li", "42 42 41 41 0e:0")
	bodyPasses(t, ">i", "02>i 03 41 41 0e:1,2,1 end 00 end")
	bodyPasses(t, ">i", "41 03i>l 41 0e:0,1 end 00")
	bodyPasses(t, ">", "02 03 02 41 0e:0,1,2,3 end end end")
	bodyPasses(t, ">", "41 0e:"+strings.Repeat("0,", 64)+"0")
	bodyFails(t, api.ErrType, ">", "!0e:0")
	bodyFails(t, api.ErrType, ">", "42 !0e:0")
	bodyFails(t, api.ErrType, ">", "41 02 !0e:0 end")
	bodyFails(t, api.ErrType, ">i", "41 !0e:0")
	bodyFails(t, api.ErrType, ">i", "42 41 !0e:0")
	bodyFails(t, api.ErrType, ">i", "41 02 41 !0e:1 end")
	// The I32 is asked for ahead of the targets; the last one is looked for ahead of all others.
	bodyFails(t, api.ErrType, ">", "!0e:9,9")
	bodyFails(t, api.ErrIndex, ">", "41 !0e:9,0")
	bodyFails(t, api.ErrIndex, ">", "41 !0e:0,9")
	bodyFails(t, api.ErrIndex, ">i", "41 !0e:0,9")
	bodyFails(t, api.ErrIndex, ">i", "02 41 !0e:1,9 end 00")
	// The others in order: the number, as many types as the last one has, the types.
	bodyFails(t, api.ErrIndex, ">i", "02 41 !0e:9,1,0 end 00")
	bodyFails(t, api.ErrType, ">i", "02 41 !0e:1,9,0 end 00")
	bodyFails(t, api.ErrIndex, ">i", "02>l 42 41 !0e:9,1,0 end 00")
	bodyFails(t, api.ErrType, ">i", "02>l 42 41 !0e:1,9,0 end 00")
	bodyFails(t, api.ErrType, ">i", "02>l 42 41 !0e:0,1,9,0 end 00")
	bodyFails(t, api.ErrIndex, ">i", "02>l 42 41 !0e:0,9,1,0 end 00")
	bodyFails(t, api.ErrIndex, ">i", "02>i 41 41 !0e:0,1,9,0 end 0c:0")
	for _, c := range []struct{ inner, outer string }{{"", "i"}, {"i", ""}, {"i", "ii"}, {"li", "i"}, {"il", "iil"}} {
		for _, stack := range []string{c.inner, c.outer, c.outer + c.inner, "iiil"} {
			bodyFails(t, api.ErrType, ">"+c.outer, "02>"+c.inner+" "+pushes(stack)+"41 !0e:0,1 end 00")
			bodyFails(t, api.ErrType, ">"+c.outer, "02>"+c.inner+" "+pushes(stack)+"41 !0e:1,0 end 00")
			bodyFails(t, api.ErrType, ">"+c.outer, "02>"+c.inner+" 00 !0e:0,1 end 00")
		}
	}
	// Each target's types are held against what lies there.
	for _, stack := range []string{"i", "l", "il", "li"} {
		bodyFails(t, api.ErrType, ">i", "02>l "+pushes(stack)+"41 !0e:0,1 end 00")
		bodyFails(t, api.ErrType, ">i", "02>l "+pushes(stack)+"41 !0e:1,0 end 00")
	}
	bodyPasses(t, ">il", "02>il 42 41 42 41 0e:1,0 end 00")
	bodyFails(t, api.ErrType, ">il", "02>ll 42 41 42 41 !0e:1,0 end 00")
	bodyFails(t, api.ErrType, ">il", "02>ll 42 41 42 41 !0e:0,1 end 00")
}

// P5.1: 0e in a dead frame: what was any type is the label's from then on.
func TestP51TableOfTheDead(t *testing.T) {
	bodyPasses(t, ">", "00 0e:0")
	bodyPasses(t, ">il", "00 0e:0,0")
	bodyPasses(t, ">i", "02>i 00 0e:0,1 end")
	bodyPasses(t, ">i", "02>i 00 41 0e:0,1,0 end")
	bodyPasses(t, ">i", "02>i 00 41 41 0e:1,0 end")
	bodyPasses(t, ">i", "02>i 00 1b 41 0e:1,0 end")
	bodyPasses(t, ">il", "02>il 00 42 41 0e:1,0 end")
	bodyFails(t, api.ErrType, ">i", "02>l 00 !0e:0,1 end 00")
	bodyFails(t, api.ErrType, ">i", "02>l 00 !0e:1,0 end 00")
	bodyFails(t, api.ErrType, ">i", "02>l 02 00 !0e:1,2,1 end 00 end 00")
	bodyFails(t, api.ErrType, ">i", "02>l 00 1b 41 !0e:1,0 end 00")
	bodyFails(t, api.ErrType, ">il", "02>ll 00 42 41 !0e:1,0 end 00")
	bodyFails(t, api.ErrType, ">i", "00 42 !0e:0")
	bodyFails(t, api.ErrType, ">i", "00 42 41 !0e:0")
	bodyFails(t, api.ErrIndex, ">i", "00 !0e:1")
	bodyFails(t, api.ErrIndex, ">i", "00 !0e:1,0")
	bodyPasses(t, ">l", "02>i 00 0e:0 end 1a 42")
	bodyPasses(t, ">l", "00 02>i 00 0e:0,0 45 end 1a 42")
}

// P5.1: 0f takes what the body answers, however deep it stands.
func TestP51Return(t *testing.T) {
	for _, typ := range []string{">", "l>i", "i>l", "l>li", "ii>il"} {
		_, answers, _ := strings.Cut(typ, ">")
		bodyPasses(t, typ, pushes(answers)+"0f")
		bodyPasses(t, typ, pushes("li"+answers)+"0f")
		bodyPasses(t, typ, "02>l 41 03i>l 1a "+pushes(answers)+"0f end end 00")
		bodyPasses(t, typ, "41 04 "+pushes(answers)+"0f else "+pushes("l"+answers)+"0f end 00")
		bodyPasses(t, typ, "00 0f")
		for i := range len(answers) {
			bodyFails(t, api.ErrType, typ, pushes(answers[:i]+other(answers[i])+answers[i+1:])+"!0f")
			bodyFails(t, api.ErrType, typ, pushes(answers[i+1:])+"!0f")
			bodyFails(t, api.ErrType, typ, pushes(answers)+"02 !0f end 00")
			bodyFails(t, api.ErrType, typ, "00 "+pushes(other(answers[i])+answers[i+1:])+"!0f")
		}
	}
}

// P5.1: what is dead: whatever is asked for is there, but not beneath what lies there again; and not what is around it.
func TestP51Dead(t *testing.T) {
	for _, end := range []string{"00", "0c:0", "41 0e:0", "0f"} {
		for _, out := range []string{"", "i", "l", "il", "lli"} {
			ahead := pushes(out) + end + " "
			bodyPasses(t, ">"+out, ahead)
			bodyPasses(t, ">"+out, "41 42 "+ahead)
			bodyPasses(t, ">"+out, ahead+"1a 6a 1a 7c 1a")
			bodyPasses(t, ">"+out, ahead+"6a 1a 7c 1a "+pushes(out))
			bodyPasses(t, ">"+out, ahead+end)
			bodyPasses(t, ">"+out, "42 "+ahead+"37:0 36:0 10:2 10:2 1a")
			bodyPasses(t, ">"+out, ahead+"02il>li 00 end 1a 1a 04 01 else 01 end")
			bodyFails(t, api.ErrType, ">"+out, ahead+"42 !45")
			bodyFails(t, api.ErrType, ">"+out, ahead+"42 41 !6a")
			bodyFails(t, api.ErrType, ">"+out, ahead+"41 ac !45")
			bodyFails(t, api.ErrType, ">"+out, ahead+"6a !50")
			bodyFails(t, api.ErrType, ">"+out, ahead+"02 !1a end")
			bodyFails(t, api.ErrType, ">"+out, ahead+"!02>i end 1a")
			bodyFails(t, api.ErrType, ">"+out, ahead+"!04>i 00 else end 1a")
			for _, more := range []string{"i", "l"} {
				bodyFails(t, api.ErrType, ">"+out, ahead+pushes(more+out)+"!")
			}
			if out != "" {
				bodyPasses(t, ">"+out, ahead+pushes(out[1:]))
				bodyPasses(t, ">"+out, ahead+pushes(out[len(out)-1:]))
				bodyFails(t, api.ErrType, ">"+out, ahead+pushes(other(out[0])+out[1:])+"!")
				bodyFails(t, api.ErrType, ">"+out, ahead+pushes(other(out[len(out)-1]))+"!")
			}
		}
	}
	// What lay on the stack is gone.
	bodyPasses(t, ">l", "41 41 00 1a 1a 1a")
	bodyPasses(t, ">l", "41 00")
	bodyPasses(t, ">", "41 00 50 1a")
	bodyPasses(t, ">", "41 0c:0 50 1a")
	bodyPasses(t, ">", "41 0f 50 1a")
	bodyPasses(t, ">", "41 41 0e:0 50 1a")
}

// P5.1: dead is the innermost frame alone, up to its end.
func TestP51DeadFrames(t *testing.T) {
	for _, end := range []string{"00", "0c:0", "0c:1", "41 0e:0,1", "0f"} {
		for _, open := range []string{"02 ", "03 ", "41 04 ", "41 04 else "} {
			bodyPasses(t, ">", open+end+" end")
			bodyPasses(t, ">", open+end+" 1a 1a end")
			bodyPasses(t, ">", open+"42 "+end+" 45 1a end")
			bodyFails(t, api.ErrType, ">", open+end+" end !1a")
			bodyFails(t, api.ErrType, ">", "02 "+open+end+" end !1a end")
			bodyFails(t, api.ErrType, ">", open+end+" 1a end 41 1a !1a")
			bodyFails(t, api.ErrType, ">", open+end+" 02 !1a end end")
			bodyPasses(t, ">", "42 "+open+end+" end 1a")
			bodyFails(t, api.ErrType, ">", "42 "+open+end+" end !45")
			bodyFails(t, api.ErrType, ">", "42 "+open+end+" end !")
		}
	}
	// What a frame that is around has lying on its stack is not gone.
	bodyPasses(t, ">l", "42 02 00 end")
	bodyPasses(t, ">il", "41 02 00 end 42")
	bodyFails(t, api.ErrType, ">i", "42 02 00 end !")
	bodyFails(t, api.ErrType, ">", "42 02 00 end !45")
	bodyPasses(t, ">", "00 02 end 1a")
	bodyFails(t, api.ErrType, ">", "00 42 02 end !45")
}

// P5.1: what is wrong in what is dead is wrong there, too.
func TestP51DeadIsLookedAt(t *testing.T) {
	for _, end := range []string{"00", "0c:0", "0f", "41 0e:0"} {
		bodyFails(t, api.ErrIndex, ">", end+" !20:2")
		bodyFails(t, api.ErrIndex, ">", end+" !21:2")
		bodyFails(t, api.ErrIndex, ">", end+" !10:5")
		bodyFails(t, api.ErrIndex, ">", end+" !23:4")
		bodyFails(t, api.ErrForm, ">", end+" !24:2")
		bodyFails(t, api.ErrIndex, ">", end+" !0c:1")
		bodyFails(t, api.ErrIndex, ">", end+" 02 !0c:2 end")
		bodyFails(t, api.ErrType, ">", end+" !02>l end 1a")
		bodyFails(t, api.ErrType, ">", end+" !04>l 00 end 1a")
	}
}

// P5.1: what is wrong at the body's end is told at how many operators there are.
func TestP51BodyEnds(t *testing.T) {
	bodyPasses(t, ">", "")
	bodyPasses(t, "il>", "")
	bodyFails(t, api.ErrType, ">i", "!")
	bodyFails(t, api.ErrType, "i>i", "!")
	bodyFails(t, api.ErrType, ">l", "41 !")
	bodyFails(t, api.ErrType, ">", "41 !")
	bodyFails(t, api.ErrType, ">i", "41 41 !")
	bodyFails(t, api.ErrType, ">il", "42 41 !")
	bodyFails(t, api.ErrType, ">il", "42 !")
	bodyFails(t, api.ErrType, ">l", "42 42 !")
	bodyFails(t, api.ErrType, ">", "01 02 01 03 41 04 01 else 01 01 end end 01 end 41 !")
	bodyFails(t, api.ErrType, ">i", "02 02 02 end end end !")
	bodyFails(t, api.ErrType, ">i", strings.Repeat("01 ", 512)+"!")
	bodyFails(t, api.ErrType, ">i", strings.Repeat("02 end ", 512)+"!")
	bodyFails(t, api.ErrType, ">i", strings.Repeat("41 04 else 01 end ", 170)+"41 1a !")
}

// P5.1: operators are counted as they are written, a block ahead of what is in it.
func TestP51Counted(t *testing.T) {
	for _, text := range []string{
		"!6a", "01 !6a", "01 01 01 !6a 6a",
		"02 !6a end", "01 02 01 !6a end", "02 01 end !6a", "02 01 01 end 01 !6a", "02 02 01 end !6a end", "02 02 01 end 01 end !6a",
		"41 04 !6a end", "41 04 else !6a end", "41 04 01 else !6a end", "41 04 01 01 else 01 !6a end", "41 04 01 else 01 end !6a",
		"41 04 02 01 end else 03 01 end !6a end", "41 04 else 41 04 else 41 04 else !6a end end end",
		strings.Repeat("01 ", 511) + "!6a", strings.Repeat("02 ", 16) + "!6a", strings.Repeat("03 end ", 511) + "!6a",
		strings.Repeat("41 04 01 else 01 end ", 127) + "!6a",
	} {
		bodyFails(t, api.ErrType, ">", text)
	}
	bodyFails(t, api.ErrType, ">", "41 04 02 01 end else 01 !02 41 end end")
	bodyFails(t, api.ErrType, ">", "41 04 02 01 end else !02 01 03 end 41 01 end end 6a")
	bodyFails(t, api.ErrType, ">", "41 !04 02 01 end 41 else 02 01 03 end 41 01 end end 6a")
}

// P5.1: of several bodies the first one's first fault, with its number among those that are no host's.
func TestP51Bodies(t *testing.T) {
	for _, imports := range []int{0, 1, 5} {
		for first := range 4 {
			for second := first; second < 4; second++ {
				m := api.Module{Types: []api.Sig{{}, sig("il>l")}, Imports: slices.Repeat([]api.Import{{Type: 1}}, imports), Pages: -1, Start: -1}
				m.Funcs = slices.Repeat([]api.Func{{Body: ops("01")}}, 4)
				m.Funcs[second].Body = ops("01 20:0")
				m.Funcs[first].Body = ops("01 02 41 end 20:0")
				checks(t, "two bodies that may not be", m, api.Fault{Why: api.ErrType, At: first, Op: 1})
				m.Funcs[first].Body = ops("01 02 end 0c:1")
				checks(t, "two bodies that may not be", m, api.Fault{Why: api.ErrIndex, At: first, Op: 2})
			}
		}
	}
	// Each has its own locals, answers and labels.
	m := world()
	put(&m, 0, "l>l", "i", "20:0 20:1 45 0d:0")
	put(&m, 1, ">i", "", "41 0f")
	put(&m, 2, "ii>", "l", "20:2 20:0 24:0 24:1")
	passes(t, "three bodies", m)
	put(&m, 1, ">i", "", "20:0")
	checks(t, "a local of another function", m, api.Fault{Why: api.ErrIndex, At: 1})
	put(&m, 1, ">i", "", "42")
	checks(t, "an answer of another function", m, api.Fault{Why: api.ErrType, At: 1, Op: 1})
}
