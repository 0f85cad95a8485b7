package leb_test

import (
	"bytes"
	"math/big"
	"testing"

	"bellcrank/api"
	"bellcrank/leb"
)

// answer is what a reading answers, with the number as large as it may be.
type answer struct {
	n    *big.Int
	next int
	why  api.Errno
	at   int
}

// power is 2 to the power of n.
func power(n int) *big.Int { return new(big.Int).Lsh(big.NewInt(1), uint(n)) }

// inRange tells whether n is a number of so many bits.
func inRange(n *big.Int, bits int, signed bool) bool {
	if signed {
		half := power(bits - 1)
		return n.Cmp(new(big.Int).Neg(half)) >= 0 && n.Cmp(half) < 0
	}
	return n.Sign() >= 0 && n.Cmp(power(bits)) < 0
}

// wrong is an answer that has a fault, and nothing else.
func wrong(why api.Errno, at int) answer { return answer{new(big.Int), 0, why, at} }

// expect says what the document's words ask of a reading: by sums and ranges, where the program takes shifts.
func expect(b []byte, at, bits int, signed bool) answer {
	if bits != 32 && bits != 64 || at < 0 || at > len(b) {
		return wrong(api.ErrArg, at)
	}
	most := 5
	if bits == 64 {
		most = 10
	}
	n := new(big.Int)
	for k := 1; ; k++ {
		place := at + k - 1
		if place >= len(b) {
			return wrong(api.ErrEnd, len(b))
		}
		c := int64(b[place])
		n.Add(n, new(big.Int).Mul(big.NewInt(c%128), power(7*(k-1))))
		if c >= 128 && k == most {
			return wrong(api.ErrLeb, place)
		}
		if c >= 128 {
			continue
		}
		if signed && c >= 64 {
			n.Sub(n, power(7*k))
		}
		if !inRange(n, bits, signed) {
			return wrong(api.ErrLeb, place)
		}
		return answer{n, place + 1, api.OK, 0}
	}
}

// got is what the program answers.
func got(b []byte, at, bits int, signed bool) (answer, int) {
	if signed {
		n, next, f := leb.S(b, at, bits)
		return answer{big.NewInt(n), next, f.Why, f.At}, f.Op
	}
	n, next, f := leb.U(b, at, bits)
	return answer{new(big.Int).SetUint64(n), next, f.Why, f.At}, f.Op
}

// reads holds one reading against the document's words, and tells whether it was as they say.
func reads(t *testing.T, b []byte, at, bits int, signed bool) {
	t.Helper()
	before := bytes.Clone(b)
	want := expect(b, at, bits, signed)
	have, op := got(b, at, bits, signed)
	if have.n.Cmp(want.n) != 0 || have.next != want.next || have.why != want.why || have.at != want.at || op != 0 {
		t.Errorf("%v at %d, %d bits, signed %v: got %v, place %d, fault {%d %d %d}, want %v, place %d, fault {%d %d 0}",
			b, at, bits, signed, have.n, have.next, have.why, have.at, op, want.n, want.next, want.why, want.at)
	}
	if !bytes.Equal(b, before) {
		t.Errorf("a reading turned %v into %v", before, b)
	}
}

// readsAll does so with 32 and with 64 bits, without and with a sign.
func readsAll(t *testing.T, b []byte, at int) {
	t.Helper()
	for _, bits := range []int{32, 64} {
		reads(t, b, at, bits, false)
		reads(t, b, at, bits, true)
	}
}

// unsigned are numbers without a sign about each place where something turns.
func unsigned() []uint64 {
	l := []uint64{0, 1, 2, 624485, 1<<64 - 1, 1<<64 - 2}
	for k := 1; k < 64; k++ {
		p := uint64(1) << k
		l = append(l, p-1, p, p+1, p+p/3)
	}
	return l
}

// signedNumbers are numbers with a sign about each place where something turns.
func signedNumbers() []int64 {
	l := []int64{0, -1, 1, -123456, 123456, -1 << 63, -1<<63 + 1, 1<<63 - 1, 1<<63 - 2}
	for k := 1; k < 63; k++ {
		p := int64(1) << k
		l = append(l, p-1, p, p+1, p+p/3, -p-1, -p, -p+1, -p-p/3)
	}
	return l
}

// fewest is how few groups n can be written in: the least count in whose range it is.
func fewest(n *big.Int, signed bool) int {
	k := 1
	for !inRange(n, 7*k, signed) {
		k++
	}
	return k
}

// groups are n's bytes in just so many groups: as many lowest digits of n to the base 128.
func groups(n *big.Int, count int) []byte {
	var out []byte
	rest := new(big.Int).Mod(n, power(7*count))
	for k := 1; k <= count; k++ {
		digit := new(big.Int)
		rest.DivMod(rest, big.NewInt(128), digit)
		c := byte(digit.Int64())
		if k < count {
			c += 128
		}
		out = append(out, c)
	}
	return out
}
