package num_test

import (
	"math"
	"slices"
	"strings"
	"testing"

	"bellcrank/api"
	"bellcrank/num"
)

// numbers go from below 0 to above the table's last operator, and stand where an operator cut to fewer bits would be one.
func numbers() []int {
	out := []int{math.MinInt, math.MinInt + 0x6a, math.MinInt32, math.MaxInt32, math.MaxInt, 1<<8 + 0x6a, 1<<16 + 0x6a, 1<<32 + 0x6a, 1<<32 + 0xc4, -0x6a}
	for op := -300; op < 0x300; op++ {
		out = append(out, op)
	}
	return out
}

// pairs calls f with each two of some numbers of a type.
func pairs(t int, f func(a, b uint64)) {
	for _, a := range edges(t) {
		for _, b := range edges(t) {
			f(a, b)
		}
	}
	far := steps(t, 400)
	for i := 1; i < len(far); i++ {
		f(far[i-1], far[i])
		f(far[i-1], far[i]>>(uint64(i)%40))
	}
}

// inputs calls f with some numbers that an operator may be handed.
func inputs(r row, f func(a []uint64)) {
	if len(r.in) == 2 {
		pairs(r.in[0], func(a, b uint64) { f([]uint64{a, b}) })
		return
	}
	for _, a := range append(edges(r.in[0]), steps(r.in[0], 400)...) {
		f([]uint64{a})
	}
}

func TestP21Sig(t *testing.T) {
	all := table()
	for _, op := range numbers() {
		in, out, ok := num.Sig(op)
		r, is := all[op]
		if ok != is || out != r.out || !slices.Equal(in, r.in) {
			t.Errorf("Sig(%x): %x %x %v, not %x %x %v", op, in, out, ok, r.in, r.out, is)
		}
	}
}

func TestP21SigByHand(t *testing.T) {
	for _, c := range []struct {
		op  int
		in  []int
		out int
		ok  bool
	}{
		{0x44, nil, 0, false}, {0x45, []int{api.I32}, api.I32, true}, {0x46, []int{api.I32, api.I32}, api.I32, true},
		{0x4f, []int{api.I32, api.I32}, api.I32, true}, {0x50, []int{api.I64}, api.I32, true},
		{0x51, []int{api.I64, api.I64}, api.I32, true}, {0x5a, []int{api.I64, api.I64}, api.I32, true}, {0x5b, nil, 0, false},
		{0x66, nil, 0, false}, {0x67, []int{api.I32}, api.I32, true}, {0x69, []int{api.I32}, api.I32, true},
		{0x6a, []int{api.I32, api.I32}, api.I32, true}, {0x78, []int{api.I32, api.I32}, api.I32, true},
		{0x79, []int{api.I64}, api.I64, true}, {0x7b, []int{api.I64}, api.I64, true},
		{0x7c, []int{api.I64, api.I64}, api.I64, true}, {0x8a, []int{api.I64, api.I64}, api.I64, true}, {0x8b, nil, 0, false},
		{0xa6, nil, 0, false}, {0xa7, []int{api.I64}, api.I32, true}, {0xa8, nil, 0, false},
		{0xab, nil, 0, false}, {0xac, []int{api.I32}, api.I64, true}, {0xad, []int{api.I32}, api.I64, true}, {0xae, nil, 0, false},
		{0xbf, nil, 0, false}, {0xc0, []int{api.I32}, api.I32, true}, {0xc1, []int{api.I32}, api.I32, true},
		{0xc2, []int{api.I64}, api.I64, true}, {0xc4, []int{api.I64}, api.I64, true}, {0xc5, nil, 0, false},
		{0, nil, 0, false}, {-1, nil, 0, false}, {api.OpConst, nil, 0, false},
	} {
		if in, out, ok := num.Sig(c.op); ok != c.ok || out != c.out || !slices.Equal(in, c.in) {
			t.Errorf("Sig(%x): %x %x %v", c.op, in, out, ok)
		}
	}
}

func TestP21Ops(t *testing.T) {
	var want []int
	for _, r := range rows() {
		want = append(want, r.op)
	}
	if got := num.Ops(); !slices.Equal(got, want) {
		t.Errorf("Ops: %x, not %x", got, want)
	}
	if !slices.IsSorted(want) || len(want) != 22+36+3+5 {
		t.Errorf("the test's own table is wrong: %x", want)
	}
}

func TestP22Total(t *testing.T) {
	all := table()
	for _, op := range numbers() {
		_, is := all[op]
		division := op >= 0x6d && op <= 0x70 || op >= 0x7f && op <= 0x82
		if got := num.Total(op); got != (is && !division) {
			t.Errorf("Total(%x): %v", op, got)
		}
	}
}

func TestP22Commutes(t *testing.T) {
	want := []int{0x46, 0x47, 0x51, 0x52, 0x6a, 0x6c, 0x71, 0x72, 0x73, 0x7c, 0x7e, 0x83, 0x84, 0x85}
	for _, op := range numbers() {
		if got := num.Commutes(op); got != slices.Contains(want, op) {
			t.Errorf("Commutes(%x): %v", op, got)
		}
	}
}

func TestP23Fits(t *testing.T) {
	for _, c := range []struct {
		n        uint64
		i32, i64 bool
	}{
		{0, true, true}, {1, true, true}, {1<<31 - 1, true, true}, {1 << 31, true, true}, {1<<32 - 1, true, true},
		{1 << 32, false, true}, {1<<32 + 1, false, true}, {1 << 63, false, true}, {1<<63 - 1, false, true}, {1<<64 - 1<<32, false, true}, {1<<64 - 1, false, true},
	} {
		if got := num.Fits(api.I32, c.n); got != c.i32 {
			t.Errorf("Fits(I32, %x): %v", c.n, got)
		}
		if got := num.Fits(api.I64, c.n); got != c.i64 {
			t.Errorf("Fits(I64, %x): %v", c.n, got)
		}
		for _, other := range numbers() {
			if other != api.I32 && other != api.I64 && num.Fits(other, c.n) {
				t.Errorf("Fits(%x, %x): true", other, c.n)
			}
		}
	}
}

// refused holds that an operator is refused as an argument, and nothing else is answered.
func refused(t *testing.T, op int, a ...uint64) {
	t.Helper()
	if n, why := num.Eval(op, a...); n != 0 || why != api.ErrArg {
		t.Errorf("Eval(%x, %x): %x %v, not 0 ErrArg", op, a, n, why)
	}
}

func TestP24NoOperator(t *testing.T) {
	all := table()
	for _, op := range numbers() {
		if _, is := all[op]; is {
			continue
		}
		refused(t, op)
		refused(t, op, 1)
		refused(t, op, 1, 0)
		refused(t, op, 1, 0, 1<<64-1)
	}
}

func TestP24HowMany(t *testing.T) {
	for _, r := range rows() {
		for count := range 5 {
			if count != len(r.in) {
				refused(t, r.op, make([]uint64, count)...)
			}
		}
		refused(t, r.op, make([]uint64, 1<<16)...)
		refused(t, r.op, make([]uint64, 1<<16+len(r.in))...)
	}
}

// TestP24NotOne hands each operator of I32 what is none, ahead of any trap.
func TestP24NotOne(t *testing.T) {
	for _, r := range rows() {
		if r.in[0] != api.I32 {
			continue
		}
		for _, n := range []uint64{1 << 32, 1<<32 + 1, 1<<33 + 7, 1 << 63, 1<<64 - 1<<31, 1<<64 - 1} {
			if len(r.in) == 1 {
				refused(t, r.op, n)
				continue
			}
			refused(t, r.op, n, 3)
			refused(t, r.op, 3, n)
			refused(t, r.op, n, n)
			refused(t, r.op, n, 0)
			refused(t, r.op, 0, n)
			refused(t, r.op, n, 1<<32-1)
			refused(t, r.op, 1<<31, n)
		}
	}
}

func TestP24Traps(t *testing.T) {
	for _, c := range []struct {
		quotient int
		most     uint64
	}{{0x6d, 1<<32 - 1}, {0x7f, 1<<64 - 1}} {
		least := c.most/2 + 1
		for op := c.quotient; op < c.quotient+4; op++ {
			for _, a := range []uint64{0, 1, least - 1, least, c.most} {
				if n, why := num.Eval(op, a, 0); n != 0 || why != api.TrapZero {
					t.Errorf("Eval(%x, %x, 0): %x %v", op, a, n, why)
				}
			}
		}
		if n, why := num.Eval(c.quotient, least, c.most); n != 0 || why != api.TrapOver {
			t.Errorf("Eval(%x, least, -1): %x %v", c.quotient, n, why)
		}
		for _, near := range [][3]uint64{{least + 1, c.most, least - 1}, {least, c.most - 1, least / 2}, {least, 1, least}, {least - 1, c.most, least + 1}} {
			if n, why := num.Eval(c.quotient, near[0], near[1]); n != near[2] || why != api.OK {
				t.Errorf("Eval(%x, %x, %x): %x %v", c.quotient, near[0], near[1], n, why)
			}
		}
		for op, want := range map[int]uint64{c.quotient + 1: 0, c.quotient + 2: 0, c.quotient + 3: least} {
			if n, why := num.Eval(op, least, c.most); n != want || why != api.OK {
				t.Errorf("Eval(%x, least, -1): %x %v", op, n, why)
			}
		}
	}
}

func TestP24ByHand(t *testing.T) {
	for _, c := range []struct {
		op   int
		a    []uint64
		want uint64
	}{
		{0x6d, []uint64{1<<32 - 7, 2}, 1<<32 - 3}, {0x75, []uint64{1 << 31, 1}, 3 << 30},
		{0x45, []uint64{0}, 1}, {0x45, []uint64{1 << 31}, 0}, {0x50, []uint64{0}, 1}, {0x50, []uint64{1 << 32}, 0},
		{0x48, []uint64{1<<32 - 1, 0}, 1}, {0x49, []uint64{1<<32 - 1, 0}, 0}, {0x53, []uint64{1<<32 - 1, 0}, 0}, {0x53, []uint64{1<<64 - 1, 0}, 1},
		{0x4a, []uint64{0, 1 << 31}, 1}, {0x4b, []uint64{0, 1 << 31}, 0}, {0x4c, []uint64{5, 5}, 1}, {0x4d, []uint64{6, 5}, 0},
		{0x4e, []uint64{5, 5}, 1}, {0x4f, []uint64{4, 5}, 0}, {0x5a, []uint64{1 << 63, 1}, 1}, {0x59, []uint64{1 << 63, 1}, 0},
		{0x67, []uint64{0}, 32}, {0x68, []uint64{0}, 32}, {0x79, []uint64{0}, 64}, {0x7a, []uint64{0}, 64},
		{0x67, []uint64{1}, 31}, {0x68, []uint64{1 << 31}, 31}, {0x69, []uint64{1<<32 - 1}, 32}, {0x7b, []uint64{1<<64 - 1}, 64},
		{0x6a, []uint64{1<<32 - 1, 1}, 0}, {0x6b, []uint64{0, 1}, 1<<32 - 1}, {0x6c, []uint64{1 << 31, 2}, 0}, {0x6c, []uint64{1<<32 - 1, 1<<32 - 1}, 1},
		{0x7c, []uint64{1<<64 - 1, 1}, 0}, {0x7d, []uint64{0, 1}, 1<<64 - 1}, {0x7e, []uint64{1 << 63, 2}, 0}, {0x7e, []uint64{1<<64 - 1, 1<<64 - 1}, 1},
		{0x6f, []uint64{1<<32 - 7, 2}, 1<<32 - 1}, {0x6f, []uint64{7, 1<<32 - 2}, 1}, {0x70, []uint64{1<<32 - 7, 2}, 1},
		{0x6e, []uint64{1<<32 - 7, 2}, 1<<31 - 4}, {0x7f, []uint64{1<<64 - 7, 2}, 1<<64 - 3}, {0x81, []uint64{1<<64 - 7, 2}, 1<<64 - 1},
		{0x71, []uint64{12, 10}, 8}, {0x72, []uint64{12, 10}, 14}, {0x73, []uint64{12, 10}, 6},
		{0x74, []uint64{1, 31}, 1 << 31}, {0x74, []uint64{1, 32}, 1}, {0x74, []uint64{3, 31}, 1 << 31}, {0x74, []uint64{1, 33}, 2},
		{0x86, []uint64{1, 32}, 1 << 32}, {0x86, []uint64{1, 64}, 1}, {0x86, []uint64{1, 1<<64 - 1}, 1 << 63},
		{0x75, []uint64{1 << 31, 31}, 1<<32 - 1}, {0x75, []uint64{1 << 30, 30}, 1}, {0x76, []uint64{1 << 31, 31}, 1}, {0x76, []uint64{1 << 31, 1<<32 - 1}, 1},
		{0x87, []uint64{1 << 63, 63}, 1<<64 - 1}, {0x88, []uint64{1 << 63, 63}, 1}, {0x87, []uint64{1 << 31, 1}, 1 << 30},
		{0x77, []uint64{1<<31 + 2, 1}, 5}, {0x78, []uint64{5, 1}, 1<<31 + 2}, {0x77, []uint64{9, 32}, 9}, {0x78, []uint64{9, 32}, 9}, {0x78, []uint64{9, 0}, 9},
		{0x89, []uint64{1<<63 + 2, 1}, 5}, {0x8a, []uint64{5, 1}, 1<<63 + 2}, {0x89, []uint64{9, 64}, 9}, {0x8a, []uint64{9, 64}, 9}, {0x8a, []uint64{9, 0}, 9},
		{0xa7, []uint64{1<<63 + 5}, 5}, {0xa7, []uint64{1<<64 - 1}, 1<<32 - 1}, {0xac, []uint64{1 << 31}, 1<<64 - 1<<31}, {0xac, []uint64{1<<31 - 1}, 1<<31 - 1}, {0xad, []uint64{1 << 31}, 1 << 31},
		{0xc0, []uint64{0x180}, 1<<32 - 0x80}, {0xc0, []uint64{0x17f}, 0x7f}, {0xc1, []uint64{0x18000}, 1<<32 - 0x8000}, {0xc1, []uint64{0x17fff}, 0x7fff},
		{0xc2, []uint64{0x180}, 1<<64 - 0x80}, {0xc2, []uint64{0x17f}, 0x7f}, {0xc3, []uint64{0x18000}, 1<<64 - 0x8000}, {0xc3, []uint64{0x17fff}, 0x7fff},
		{0xc4, []uint64{0x180000000}, 1<<64 - 0x80000000}, {0xc4, []uint64{0x17fffffff}, 0x7fffffff},
	} {
		if n, why := num.Eval(c.op, c.a...); n != c.want || why != api.OK {
			t.Errorf("Eval(%x, %x): %x %v, not %x", c.op, c.a, n, why, c.want)
		}
	}
}

func TestP24Meaning(t *testing.T) {
	for _, r := range rows() {
		inputs(r, func(a []uint64) {
			want, trap := mean(r, a)
			if n, why := num.Eval(r.op, a...); n != want || why != trap {
				t.Fatalf("Eval(%x %s, %x): %x %v, not %x %v", r.op, r.name, a, n, why, want, trap)
			}
		})
	}
}

func TestP25Fits(t *testing.T) {
	for _, op := range num.Ops() {
		in, out, _ := num.Sig(op)
		inputs(row{op: op, in: in}, func(a []uint64) {
			n, why := num.Eval(op, a...)
			if !num.Fits(out, n) {
				t.Fatalf("Eval(%x, %x): %x is none of %x", op, a, n, out)
			}
			if why != api.OK && (num.Total(op) || n != 0 || why != api.TrapZero && why != api.TrapOver) {
				t.Fatalf("Eval(%x, %x): %x %v", op, a, n, why)
			}
		})
	}
}

func TestP26Changed(t *testing.T) {
	for _, op := range num.Ops() {
		if !num.Commutes(op) {
			continue
		}
		in, _, _ := num.Sig(op)
		if len(in) != 2 {
			t.Fatalf("%x commutes, and takes %x", op, in)
		}
		pairs(in[0], func(a, b uint64) {
			n, why := num.Eval(op, a, b)
			m, whyToo := num.Eval(op, b, a)
			if n != m || why != whyToo || why != api.OK {
				t.Fatalf("Eval(%x): of %x, %x %x %v; changed %x %v", op, a, b, n, why, m, whyToo)
			}
		})
	}
}

// TestP27Quotients puts a quotient, the divisor and the rest together again.
func TestP27Quotients(t *testing.T) {
	for _, c := range []struct{ of, quotient, rest, product, sum int }{
		{api.I32, 0x6d, 0x6f, 0x6c, 0x6a}, {api.I32, 0x6e, 0x70, 0x6c, 0x6a},
		{api.I64, 0x7f, 0x81, 0x7e, 0x7c}, {api.I64, 0x80, 0x82, 0x7e, 0x7c},
	} {
		count := 0
		pairs(c.of, func(a, b uint64) {
			q, why := num.Eval(c.quotient, a, b)
			if why != api.OK {
				return
			}
			count++
			rest, restWhy := num.Eval(c.rest, a, b)
			p, productWhy := num.Eval(c.product, q, b)
			n, sumWhy := num.Eval(c.sum, p, rest)
			if n != a || restWhy != api.OK || productWhy != api.OK || sumWhy != api.OK {
				t.Fatalf("%x of %x, %x: %x; with the rest %x it is %x", c.quotient, a, b, q, rest, n)
			}
		})
		if count < 1000 {
			t.Errorf("%x has %d quotients", c.quotient, count)
		}
	}
}

func TestR4Answers(t *testing.T) {
	for _, r := range rows() {
		in, _, _ := num.Sig(r.op)
		for i := range in {
			in[i] = -7
		}
		in = append(in, -8)
		if again, _, ok := num.Sig(r.op); !ok || !slices.Equal(again, r.in) {
			t.Errorf("Sig(%x), written over: %x", r.op, again)
		}
	}
	ops := num.Ops()
	clear(ops)
	_ = append(ops[:0], 1, 2, 3)
	if again := num.Ops(); len(again) != len(rows()) || again[0] != 0x45 || again[len(again)-1] != 0xc4 {
		t.Errorf("Ops, written over: %x", again)
	}
	if num.Total(0) || !num.Total(0x45) {
		t.Error("Ops, written over, turned Total")
	}
}

func TestR4Arguments(t *testing.T) {
	for _, r := range rows() {
		inputs(r, func(a []uint64) {
			handed := append(append([]uint64{}, a...), 11, 12, 13)
			kept := slices.Clone(handed)
			num.Eval(r.op, handed[:len(a)]...)
			if !slices.Equal(handed, kept) {
				t.Fatalf("Eval(%x) wrote: %x, not %x", r.op, handed, kept)
			}
		})
	}
	handed := []uint64{1 << 40, 0, 5}
	num.Eval(0x6d, handed...)
	num.Eval(0x6d, handed[:2]...)
	if !slices.Equal(handed, []uint64{1 << 40, 0, 5}) {
		t.Errorf("Eval, refused, wrote: %x", handed)
	}
}

// TestR3Again holds that an answer hangs on the arguments alone, whatever was asked between.
func TestR3Again(t *testing.T) {
	ask := func() string {
		var b strings.Builder
		for _, r := range rows() {
			n, why := num.Eval(r.op, []uint64{1 << 31, 1<<32 - 1}[:len(r.in)]...)
			b.WriteString(string(rune('0'+n%10)) + why.Error() + ";")
		}
		return b.String()
	}
	first := ask()
	num.Eval(0x6d, 1, 0)
	num.Eval(-1)
	num.Eval(0x7f, 1<<63, 1<<64-1)
	if second := ask(); first != second {
		t.Errorf("%s, and again %s", first, second)
	}
}

func TestR6NoNumbers(t *testing.T) {
	refused(t, 0x6a, nil...)
	refused(t, 0x6a, []uint64{}...)
	refused(t, 0x45, nil...)
	refused(t, -1, nil...)
}
