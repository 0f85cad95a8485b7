package leb_test

import (
	"bytes"
	"math"
	"math/big"
	"testing"

	"bellcrank/api"
	"bellcrank/leb"
)

// The calls have just these types.
var (
	_ func([]byte, uint64) []byte                     = leb.PutU
	_ func([]byte, int64) []byte                      = leb.PutS
	_ func([]byte, int, int) (uint64, int, api.Fault) = leb.U
	_ func([]byte, int, int) (int64, int, api.Fault)  = leb.S
	_ func(uint64) int                                = leb.Size
)

// heads are bytes that stand ahead of a number in the tests.
func heads() [][]byte {
	return [][]byte{nil, {}, {0}, {128}, {255, 255, 255}, {1, 2, 3, 4, 5, 6, 7, 8, 9, 10, 11, 12, 13, 14, 15, 16, 17}}
}

// tails are bytes that stand behind one.
func tails() [][]byte {
	l := [][]byte{nil, {128, 128}, {255, 255, 255, 255, 255, 255, 255, 255, 255, 255, 255}}
	for c := 0; c < 256; c++ {
		l = append(l, []byte{byte(c)})
	}
	return l
}

// join lays bytes one behind the other into memory of their own.
func join(parts ...[]byte) []byte { return bytes.Join(parts, nil) }

func TestExamples(t *testing.T) {
	if b := leb.PutU(nil, 624485); !bytes.Equal(b, []byte{229, 142, 38}) {
		t.Error("PutU of 624485:", b)
	}
	if b := leb.PutS(nil, -123456); !bytes.Equal(b, []byte{192, 187, 120}) {
		t.Error("PutS of -123456:", b)
	}
	if n, next, f := leb.U([]byte{229, 142, 38}, 0, 32); n != 624485 || next != 3 || f != (api.Fault{}) {
		t.Error("U of 624485:", n, next, f)
	}
	if n, next, f := leb.S([]byte{192, 187, 120}, 0, 32); n != -123456 || next != 3 || f != (api.Fault{}) {
		t.Error("S of -123456:", n, next, f)
	}
	if n, next, f := leb.U([]byte{128, 128, 0}, 0, 32); n != 0 || next != 3 || f != (api.Fault{}) {
		t.Error("U of a needless 0:", n, next, f)
	}
	if n, next, f := leb.S([]byte{128, 128, 0}, 0, 32); n != 0 || next != 3 || f != (api.Fault{}) {
		t.Error("S of a needless 0:", n, next, f)
	}
}

// P1.1: the bytes that were there, and as few groups as can be behind them.
func TestPut(t *testing.T) {
	for _, head := range heads() {
		for _, n := range unsigned() {
			number := new(big.Int).SetUint64(n)
			want := join(head, groups(number, fewest(number, false)))
			if have := leb.PutU(head, n); !bytes.Equal(have, want) {
				t.Errorf("PutU(%v, %d): %v, want %v", head, n, have, want)
			}
		}
		for _, n := range signedNumbers() {
			number := big.NewInt(n)
			want := join(head, groups(number, fewest(number, true)))
			if have := leb.PutS(head, n); !bytes.Equal(have, want) {
				t.Errorf("PutS(%v, %d): %v, want %v", head, n, have, want)
			}
		}
	}
}

// P1.1: some numbers' bytes, written out.
func TestPutWrittenOut(t *testing.T) {
	unsigned := []struct {
		n    uint64
		want []byte
	}{
		{0, []byte{0}}, {127, []byte{127}}, {128, []byte{128, 1}}, {16383, []byte{255, 127}}, {16384, []byte{128, 128, 1}},
		{1<<32 - 1, []byte{255, 255, 255, 255, 15}},
		{1<<63 - 1, []byte{255, 255, 255, 255, 255, 255, 255, 255, 127}},
		{1<<64 - 1, []byte{255, 255, 255, 255, 255, 255, 255, 255, 255, 1}},
	}
	for _, x := range unsigned {
		if have := leb.PutU(nil, x.n); !bytes.Equal(have, x.want) {
			t.Errorf("PutU(%d): %v, want %v", x.n, have, x.want)
		}
	}
	signed := []struct {
		n    int64
		want []byte
	}{
		{0, []byte{0}}, {63, []byte{63}}, {64, []byte{192, 0}}, {-1, []byte{127}}, {-64, []byte{64}}, {-65, []byte{191, 127}},
		{8191, []byte{255, 63}}, {8192, []byte{128, 192, 0}}, {-8192, []byte{128, 64}}, {-8193, []byte{255, 191, 127}},
		{-1 << 31, []byte{128, 128, 128, 128, 120}},
		{1<<63 - 1, []byte{255, 255, 255, 255, 255, 255, 255, 255, 255, 0}},
		{-1 << 63, []byte{128, 128, 128, 128, 128, 128, 128, 128, 128, 127}},
	}
	for _, x := range signed {
		if have := leb.PutS(nil, x.n); !bytes.Equal(have, x.want) {
			t.Errorf("PutS(%d): %v, want %v", x.n, have, x.want)
		}
	}
}

// P1.1: Size is how many groups PutU needs, also about each power of 2 at which one more is needed.
func TestSize(t *testing.T) {
	want := 1
	for k := 7; k < 64; k += 7 {
		p := uint64(1) << k
		if a, b := leb.Size(p-1), leb.Size(p); a != want || b != want+1 {
			t.Errorf("Size at 2^%d: %d ahead of it, %d there, want %d and %d", k, a, b, want, want+1)
		}
		want++
	}
	if a, b := leb.Size(0), leb.Size(math.MaxUint64); a != 1 || b != 10 {
		t.Errorf("Size of the least number %d, of the greatest one %d, want 1 and 10", a, b)
	}
	for _, n := range unsigned() {
		if have, want := leb.Size(n), fewest(new(big.Int).SetUint64(n), false); have != want || have != len(leb.PutU(nil, n)) {
			t.Errorf("Size(%d): %d, want %d", n, have, want)
		}
	}
}

// P1.2: a place outside, and other bits than 32 and 64, are refused, whatever stands there.
func TestArguments(t *testing.T) {
	for _, b := range [][]byte{nil, {}, {0}, {128}, {1, 2, 3}, {255, 255, 255, 255, 255, 255}} {
		places := []int{math.MinInt, math.MinInt32, -2, -1, len(b) + 1, len(b) + 2, math.MaxInt32, math.MaxInt}
		for at := range len(b) + 1 {
			places = append(places, at)
		}
		for _, at := range places {
			for _, bits := range []int{math.MinInt, -64, -32, -1, 0, 1, 7, 8, 16, 31, 32, 33, 35, 63, 64, 65, 70, 96, 128, math.MaxInt} {
				reads(t, b, at, bits, false)
				reads(t, b, at, bits, true)
			}
		}
	}
}

// P1.2: the faults' numbers, and that the place and the number are nothing beside one.
func TestFaults(t *testing.T) {
	cases := []struct {
		b        []byte
		at, bits int
		want     api.Fault
		text     string
	}{
		{[]byte{5}, 0, 16, api.Fault{Why: 1, At: 0}, "error 1"},
		{[]byte{5, 6}, 1, 0, api.Fault{Why: 1, At: 1}, "error 1"},
		{[]byte{5}, -1, 32, api.Fault{Why: 1, At: -1}, "error 1"},
		{[]byte{5}, 2, 64, api.Fault{Why: 1, At: 2}, "error 1"},
		{[]byte{5}, 1, 32, api.Fault{Why: 4, At: 1}, "error 4"},
		{nil, 0, 64, api.Fault{Why: 4, At: 0}, "error 4"},
		{[]byte{9, 255, 255}, 1, 32, api.Fault{Why: 4, At: 3}, "error 4"},
		{[]byte{9, 128, 128, 128, 128, 128, 0}, 1, 32, api.Fault{Why: 3, At: 5}, "error 3"},
		{[]byte{9, 128, 128, 128, 128, 128}, 1, 32, api.Fault{Why: 3, At: 5}, "error 3"},
		{[]byte{128, 128, 128, 128, 20}, 0, 32, api.Fault{Why: 3, At: 4}, "error 3"},
		{[]byte{128, 128, 128, 128, 128, 128, 128, 128, 128, 2}, 0, 64, api.Fault{Why: 3, At: 9}, "error 3"},
	}
	for _, x := range cases {
		if n, next, f := leb.U(x.b, x.at, x.bits); n != 0 || next != 0 || f != x.want || f.Why.Error() != x.text {
			t.Errorf("U(%v, %d, %d): %d, %d, %v, want %v", x.b, x.at, x.bits, n, next, f, x.want)
		}
		if n, next, f := leb.S(x.b, x.at, x.bits); n != 0 || next != 0 || f != x.want || f.Why.Error() != x.text {
			t.Errorf("S(%v, %d, %d): %d, %d, %v, want %v", x.b, x.at, x.bits, n, next, f, x.want)
		}
	}
}

// P1.2: each byte that may stand in each group, behind groups of all kinds, with and without a byte behind it.
func TestEachByte(t *testing.T) {
	for _, fill := range []byte{128, 129, 191, 192, 255} {
		for ahead := 0; ahead <= 11; ahead++ {
			start := bytes.Repeat([]byte{fill}, ahead)
			readsAll(t, start, 0)
			for c := 0; c < 256; c++ {
				readsAll(t, join(start, []byte{byte(c)}), 0)
				readsAll(t, join(start, []byte{byte(c), 0}), 0)
				readsAll(t, join([]byte{7, 135}, start, []byte{byte(c), 200, 3}), 2)
			}
		}
	}
}

// P1.2: all texts of up to four of some bytes, at each place.
func TestShortTexts(t *testing.T) {
	alphabet := []byte{0, 1, 63, 64, 127, 128, 191, 192, 255}
	texts := [][]byte{nil}
	for at := 0; at < len(texts); at++ {
		b := texts[at]
		for place := range len(b) + 1 {
			readsAll(t, b, place)
		}
		if len(b) == 4 {
			continue
		}
		for _, c := range alphabet {
			texts = append(texts, join(b, []byte{c}))
		}
	}
}

// P1.2: groups more than needed say the same number, as far as there may be so many.
func TestNeedlessGroups(t *testing.T) {
	for _, n := range signedNumbers() {
		number := big.NewInt(n)
		for _, bits := range []int{32, 64} {
			for count := fewest(number, true); count <= bits/7+1 && inRange(number, bits, true); count++ {
				b := groups(number, count)
				if have, next, f := leb.S(b, 0, bits); have != n || next != count || f != (api.Fault{}) {
					t.Errorf("S of %d in %d groups, %d bits: %d, %d, %v", n, count, bits, have, next, f)
				}
			}
		}
	}
	for _, n := range unsigned() {
		number := new(big.Int).SetUint64(n)
		for _, bits := range []int{32, 64} {
			for count := fewest(number, false); count <= bits/7+1 && inRange(number, bits, false); count++ {
				b := groups(number, count)
				if have, next, f := leb.U(b, 0, bits); have != n || next != count || f != (api.Fault{}) {
					t.Errorf("U of %d in %d groups, %d bits: %d, %d, %v", n, count, bits, have, next, f)
				}
			}
		}
	}
}

// P1.2: numbers of more than 32 bits are none of 32 bits.
func TestTooGreat(t *testing.T) {
	for _, n := range unsigned() {
		readsAll(t, leb.PutU(nil, n), 0)
	}
	for _, n := range signedNumbers() {
		readsAll(t, leb.PutS(nil, n), 0)
	}
}

// P1.3, P1.4: what was put is read, whatever stands ahead and behind, and the place behind it is told.
func TestReadBack(t *testing.T) {
	for _, head := range heads() {
		for _, tail := range tails() {
			for _, n := range unsigned() {
				b := leb.PutU(head, n)
				all := join(b, tail)
				if have, next, f := leb.U(all, len(head), 64); have != n || next != len(b) || f != (api.Fault{}) {
					t.Fatalf("%v behind %v, %v behind it: U answers %d, %d, %v", n, head, tail, have, next, f)
				}
				if have, next, f := leb.U(all, len(head), 32); n < 1<<32 && (have != n || next != len(b) || f != (api.Fault{})) {
					t.Fatalf("%v behind %v, %v behind it: U of 32 bits answers %d, %d, %v", n, head, tail, have, next, f)
				}
			}
			for _, n := range signedNumbers() {
				b := leb.PutS(head, n)
				all := join(b, tail)
				if have, next, f := leb.S(all, len(head), 64); have != n || next != len(b) || f != (api.Fault{}) {
					t.Fatalf("%v behind %v, %v behind it: S answers %d, %d, %v", n, head, tail, have, next, f)
				}
				if have, next, f := leb.S(all, len(head), 32); int64(int32(n)) == n && (have != n || next != len(b) || f != (api.Fault{})) {
					t.Fatalf("%v behind %v, %v behind it: S of 32 bits answers %d, %d, %v", n, head, tail, have, next, f)
				}
			}
		}
	}
}

// P1.5: a beginning of a number's bytes lacks a byte at its end, with and without needless groups.
func TestBeginnings(t *testing.T) {
	var numbers [][]byte
	for _, n := range unsigned() {
		numbers = append(numbers, leb.PutU(nil, n), groups(new(big.Int).SetUint64(n), 10))
	}
	for _, n := range signedNumbers() {
		numbers = append(numbers, leb.PutS(nil, n), groups(big.NewInt(n), 10))
	}
	for _, head := range heads() {
		for _, number := range numbers {
			for count := range len(number) {
				b := join(head, number[:count])
				want := api.Fault{Why: api.ErrEnd, At: len(b)}
				if n, next, f := leb.U(b, len(head), 64); n != 0 || next != 0 || f != want {
					t.Fatalf("U(%v, %d, 64): %d, %d, %v", b, len(head), n, next, f)
				}
				if n, next, f := leb.S(b, len(head), 64); n != 0 || next != 0 || f != want {
					t.Fatalf("S(%v, %d, 64): %d, %d, %v", b, len(head), n, next, f)
				}
			}
		}
	}
}

// Numbers that stand one behind the other are read by the places that are told.
func TestOneBehindTheOther(t *testing.T) {
	var b []byte
	for _, n := range signedNumbers() {
		b = leb.PutS(leb.PutU(b, uint64(n)), n)
	}
	at := 0
	for _, n := range signedNumbers() {
		u, next, f := leb.U(b, at, 64)
		if u != uint64(n) || f != (api.Fault{}) {
			t.Fatalf("at %d: %d, %v, want %d", at, u, f, uint64(n))
		}
		s, behind, f := leb.S(b, next, 64)
		if s != n || f != (api.Fault{}) {
			t.Fatalf("at %d: %d, %v, want %d", next, s, f, n)
		}
		at = behind
	}
	if at != len(b) {
		t.Errorf("%d bytes of %d were read", at, len(b))
	}
}
