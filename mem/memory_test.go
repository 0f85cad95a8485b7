package mem_test

import (
	"bytes"
	"math"
	"testing"

	"bellcrank/api"
	"bellcrank/mem"
)

// call is a way to have a memory answered, and whether it is an error's.
type call struct {
	name string
	of   func(m []byte) []byte
	none bool
}

// calls are the ways to have a memory answered of one of two pages.
func calls() []call {
	store := func(op int, addr, off, n uint64) func([]byte) []byte {
		return func(m []byte) []byte {
			out, _ := mem.Store(m, op, addr, off, n)
			return out
		}
	}
	grow := func(most int, pages uint64) func([]byte) []byte {
		return func(m []byte) []byte {
			out, _ := mem.Grow(m, most, pages)
			return out
		}
	}
	out := []call{
		{"Store of no access", store(0x28, 0, 0, 5), true},
		{"Store at an address that may not be", store(0x36, 1<<32, 0, 5), true},
		{"Store of no number", store(0x36, 0, 0, 1<<32), true},
		{"Store behind the end", store(0x36, 509, 0, 5), true},
		{"Grow by 0", grow(4096, 0), false},
		{"Grow by 1", grow(4096, 1), false},
		{"Grow by 14", grow(4096, 14), false},
		{"Grow past what may be", grow(4096, 15), false},
		{"Grow past most", grow(512, 1), false},
		{"Grow by 0 past most", grow(511, 0), false},
		{"Grow by the greatest number", grow(math.MaxInt, 1<<64-1), false},
	}
	for _, w := range writes() {
		out = append(out, call{"Store", store(w.op, 500, 2, 0x1234), false}, call{"Store of the same", store(w.op, 8, 0, 0x4d4d4d4d), false})
	}
	return out
}

// overwrite turns all bytes that b can reach, those past its end too.
func overwrite(b []byte) {
	b = b[:cap(b)]
	for i := range b {
		b[i] ^= 0xff
	}
}

// handed are memories of two pages with no room, with some, and with much behind them.
func handed() [][]byte {
	var out [][]byte
	for _, room := range []int{512, 513, 1024, 8192} {
		out = append(out, bytes.Repeat([]byte{77}, room)[:512])
	}
	return out
}

// R4: what is handed in stays as it is, past its end too.
func TestR4ArgumentsStay(t *testing.T) {
	for _, c := range calls() {
		for _, m := range handed() {
			c.of(m)
			if whole := m[:cap(m)]; !bytes.Equal(whole, bytes.Repeat([]byte{77}, cap(m))) {
				t.Errorf("%s wrote into what it was handed", c.name)
			}
		}
	}
}

// R4: what was handed in may be written over, and the answer stays.
func TestR4AnswerOutlivesArgument(t *testing.T) {
	for _, c := range calls() {
		for _, m := range handed() {
			out := c.of(m)
			if c.none != (out == nil) {
				t.Errorf("%s answers %d bytes", c.name, len(out))
			}
			want := bytes.Clone(out)
			overwrite(m)
			if !bytes.Equal(out, want) {
				t.Errorf("%s: the answer turned with its argument", c.name)
			}
		}
	}
}

// R4: what was answered may be written over, and neither the argument nor another answer turns.
func TestR4AnswersAreApart(t *testing.T) {
	for _, c := range calls() {
		for _, m := range handed() {
			first := c.of(m)
			want := bytes.Clone(first)
			second := c.of(m)
			overwrite(first)
			if whole := m[:cap(m)]; !bytes.Equal(whole, bytes.Repeat([]byte{77}, cap(m))) {
				t.Errorf("%s: the argument turned with the answer", c.name)
			}
			if !bytes.Equal(second, want) {
				t.Errorf("%s: an answer turned with another one", c.name)
			}
			if third := c.of(m); !bytes.Equal(third, want) {
				t.Errorf("%s: another answer behind one that was written over", c.name)
			}
		}
	}
}

// R4: what goes behind an answer stays out of the argument and of other answers.
func TestR4Append(t *testing.T) {
	for _, c := range calls() {
		for _, m := range handed() {
			first, second := c.of(m), c.of(m)
			a := append(first, 1, 2, 3)
			_ = append(second, 4, 5, 6)
			if a[len(first)] != 1 || !bytes.Equal(m[:cap(m)], bytes.Repeat([]byte{77}, cap(m))) {
				t.Errorf("%s: what goes behind one answer is seen elsewhere", c.name)
			}
		}
	}
}

// R4: a memory that grew twice, or was written twice, from one argument is two memories.
func TestR4TwoOfOne(t *testing.T) {
	m := make([]byte, 256)
	grown, _ := mem.Grow(m, 4096, 1)
	other, _ := mem.Grow(m, 4096, 2)
	a, _ := mem.Store(grown, 0x3a, 300, 0, 11)
	b, _ := mem.Store(grown, 0x3a, 300, 0, 22)
	if a[300] != 11 || b[300] != 22 || grown[300] != 0 || other[300] != 0 || len(m) != 256 {
		t.Error(a[300], b[300], grown[300], other[300])
	}
}

// R4, R3: reading and asking write nothing, and keep nothing.
func TestR4ReadsKeepNothing(t *testing.T) {
	whole := mixed(64)
	m := whole[:32]
	for range 2 {
		for _, r := range reads() {
			for place := range uint64(40) {
				loads(t, m, r.op, place, 0)
				inside(t, m, place, uint64(r.bytes))
			}
		}
		if !bytes.Equal(whole, mixed(64)) {
			t.Fatal("a reading turned the bytes")
		}
	}
	overwrite(m)
	if n, why := mem.Load(m, 0x2d, 0, 0); n != uint64(mixed(1)[0]^0xff) || why != api.OK {
		t.Error("a reading kept bytes that were written over:", n, why)
	}
}

// R3: an answer hangs on the arguments alone, whatever was asked between.
func TestR3Again(t *testing.T) {
	m := mixed(256)
	for range 3 {
		for _, r := range reads() {
			loads(t, m, r.op, 249, 0)
			loads(t, m, r.op, 3, 4)
		}
		for _, w := range writes() {
			stores(t, m, w.op, 3, 4, 0x12345678)
			stores(t, m, w.op, 256, 0, 5)
		}
		grows(t, m, 4096, 15)
		grows(t, m, 4096, 16)
		for _, op := range []int{0x27, 0x28, 0x2a, 0x3e, 0x3f} {
			r, is := rowOf(op)
			if kind, width, store, ok := mem.Access(op); kind != r.of || width != r.bytes || store != r.writes || ok != is {
				t.Errorf("Access(%x), asked again: %x %d %v %v", op, kind, width, store, ok)
			}
		}
	}
}

// R6: no list and an empty one are the same.
func TestR6NoMemoryIsAnEmptyOne(t *testing.T) {
	for _, m := range [][]byte{nil, {}, mixed(9)[:0]} {
		for _, r := range rows() {
			for _, place := range []uint64{0, 1, 1<<32 - 1, 1 << 32} {
				loads(t, m, r.op, place, 0)
				stores(t, m, r.op, place, 0, 5)
			}
		}
		for _, pages := range []uint64{0, 1, 16, 17, 1<<64 - 1} {
			for _, most := range []int{-1, 0, 255, 256, 4096} {
				grows(t, m, most, pages)
			}
		}
		inside(t, m, 0, 0)
		inside(t, m, 0, 1)
		inside(t, m, 1, 0)
	}
}

// R1: each call ends, at all arguments.
func TestR1AllArguments(t *testing.T) {
	numbers := []uint64{0, 1, 255, 256, 1<<31 - 1, 1 << 31, 1<<32 - 9, 1<<32 - 1, 1 << 32, 1 << 40, 1<<40 + 1, 1<<63 - 1, 1 << 63, 1<<64 - 9, 1<<64 - 1}
	ops := []int{math.MinInt, -1, 0, 0x27, 0x28, 0x29, 0x2a, 0x2c, 0x34, 0x36, 0x37, 0x3a, 0x3e, 0x3f, 0x100, math.MaxInt}
	for _, m := range [][]byte{nil, mixed(1), mixed(256), mixed(300)} {
		for _, a := range numbers {
			for _, b := range numbers {
				inside(t, m, a, b)
				for _, op := range ops {
					loads(t, m, op, a, b)
					for _, n := range []uint64{0, 1<<32 - 1, 1 << 32, 1<<64 - 1} {
						stores(t, m, op, a, b, n)
					}
				}
			}
			for _, most := range []int{math.MinInt, -1, 0, 256, 4096, math.MaxInt} {
				grows(t, m, most, a)
			}
		}
	}
}
