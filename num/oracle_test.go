package num_test

import (
	"math/big"
	"strings"

	"bellcrank/api"
)

// row is an operator as the document's table tells it.
type row struct {
	op   int
	name string
	in   []int
	out  int
}

// rows are the document's table, rising.
func rows() []row {
	const (
		tests = "eqz eq ne lt_s lt_u gt_s gt_u le_s le_u ge_s ge_u"
		whole = "clz ctz popcnt add sub mul div_s div_u rem_s rem_u and or xor shl shr_s shr_u rotl rotr"
	)
	var out []row
	line := func(op, of, answers int, names string) {
		for i, name := range strings.Fields(names) {
			in := []int{of, of}
			if strings.Contains(" eqz clz ctz popcnt wrap extend_s extend_u low8 low16 low32 ", " "+name+" ") {
				in = in[:1]
			}
			out = append(out, row{op + i, name, in, answers})
		}
	}
	line(0x45, api.I32, api.I32, tests)
	line(0x50, api.I64, api.I32, tests)
	line(0x67, api.I32, api.I32, whole)
	line(0x79, api.I64, api.I64, whole)
	line(0xa7, api.I64, api.I32, "wrap")
	line(0xac, api.I32, api.I64, "extend_s extend_u")
	line(0xc0, api.I32, api.I32, "low8 low16")
	line(0xc2, api.I64, api.I64, "low8 low16 low32")
	return out
}

// table is the document's table by the operators.
func table() map[int]row {
	out := map[int]row{}
	for _, r := range rows() {
		out[r.op] = r
	}
	return out
}

// wide is how many bits the numbers of a type have.
func wide(t int) int {
	if t == api.I32 {
		return 32
	}
	return 64
}

// power is 2^n.
func power(n int) *big.Int { return new(big.Int).Lsh(big.NewInt(1), uint(n)) }

// signed is n, less 2^w, if its highest bit is set.
func signed(w int, n uint64) *big.Int {
	x := new(big.Int).SetUint64(n)
	if x.Cmp(power(w-1)) >= 0 {
		x.Sub(x, power(w))
	}
	return x
}

// round is x modulo 2^w, from 0 on.
func round(w int, x *big.Int) uint64 { return new(big.Int).Mod(x, power(w)).Uint64() }

// digits are n's bits as a text, the highest one first.
func digits(w int, n uint64) string {
	s := new(big.Int).SetUint64(n).Text(2)
	return strings.Repeat("0", w-len(s)) + s
}

// number is what a text of bits says.
func number(s string) uint64 {
	x, _ := new(big.Int).SetString(s, 2)
	return x.Uint64()
}

// mean is what the document says that an operator answers.
func mean(r row, a []uint64) (uint64, api.Errno) {
	w := wide(r.in[0])
	if len(r.in) == 1 {
		return meanOne(r, w, a[0]), api.OK
	}
	if strings.HasPrefix(r.name, "div") || strings.HasPrefix(r.name, "rem") {
		return meanDivision(r, w, a[0], a[1])
	}
	if strings.Contains("eq ne lt gt le ge", r.name[:2]) {
		return meanCompare(r, w, a[0], a[1]), api.OK
	}
	return meanTwo(r, w, a[0], a[1]), api.OK
}

func meanOne(r row, w int, a uint64) uint64 {
	s := digits(w, a)
	switch r.name {
	case "eqz":
		return yes(!strings.Contains(s, "1"))
	case "clz":
		return uint64(w - len(strings.TrimLeft(s, "0")))
	case "ctz":
		return uint64(w - len(strings.TrimRight(s, "0")))
	case "popcnt":
		return uint64(strings.Count(s, "1"))
	case "wrap":
		return number(s[32:])
	case "extend_s":
		return round(64, signed(32, a))
	case "extend_u":
		return a
	case "low8":
		return round(w, signed(8, number(s[w-8:])))
	case "low16":
		return round(w, signed(16, number(s[w-16:])))
	case "low32":
		return round(w, signed(32, number(s[w-32:])))
	}
	panic(r.name)
}

func meanDivision(r row, w int, a, b uint64) (uint64, api.Errno) {
	x, y := new(big.Int).SetUint64(a), new(big.Int).SetUint64(b)
	if strings.HasSuffix(r.name, "_s") {
		x, y = signed(w, a), signed(w, b)
	}
	if y.Sign() == 0 {
		return 0, api.TrapZero
	}
	quotient, rest := new(big.Int).QuoRem(x, y, new(big.Int))
	if strings.HasPrefix(r.name, "rem") {
		return round(w, rest), api.OK
	}
	if r.name == "div_s" && quotient.Cmp(power(w-1)) == 0 {
		return 0, api.TrapOver
	}
	return round(w, quotient), api.OK
}

func meanCompare(r row, w int, a, b uint64) uint64 {
	x, y := new(big.Int).SetUint64(a), new(big.Int).SetUint64(b)
	if strings.HasSuffix(r.name, "_s") {
		x, y = signed(w, a), signed(w, b)
	}
	is := x.Cmp(y)
	switch r.name[:2] {
	case "eq":
		return yes(is == 0)
	case "ne":
		return yes(is != 0)
	case "lt":
		return yes(is < 0)
	case "gt":
		return yes(is > 0)
	case "le":
		return yes(is <= 0)
	case "ge":
		return yes(is >= 0)
	}
	panic(r.name)
}

func meanTwo(r row, w int, a, b uint64) uint64 {
	x, y := new(big.Int).SetUint64(a), new(big.Int).SetUint64(b)
	far := int(new(big.Int).Mod(y, big.NewInt(int64(w))).Int64())
	s := digits(w, a)
	switch r.name {
	case "add":
		return round(w, x.Add(x, y))
	case "sub":
		return round(w, x.Sub(x, y))
	case "mul":
		return round(w, x.Mul(x, y))
	case "and", "or", "xor":
		return bitwise(r.name, s, digits(w, b))
	case "shl":
		return number(s[far:] + strings.Repeat("0", far))
	case "shr_s":
		return number(strings.Repeat(s[:1], far) + s[:w-far])
	case "shr_u":
		return number(strings.Repeat("0", far) + s[:w-far])
	case "rotl":
		return number(s[far:] + s[:far])
	case "rotr":
		return number(s[w-far:] + s[:w-far])
	}
	panic(r.name)
}

// bitwise goes over two texts of bits, digit by digit.
func bitwise(name, s, t string) uint64 {
	out := make([]byte, len(s))
	for i := range out {
		ones := int(s[i]-'0') + int(t[i]-'0')
		holds := name == "and" && ones == 2 || name == "or" && ones > 0 || name == "xor" && ones == 1
		out[i] = '0' + byte(yes(holds))
	}
	return number(string(out))
}

func yes(holds bool) uint64 {
	if holds {
		return 1
	}
	return 0
}

// edges are numbers of a type about which an operator may err.
func edges(t int) []uint64 {
	w := wide(t)
	most := power(w)
	most.Sub(most, big.NewInt(1))
	out := []uint64{most.Uint64(), most.Uint64() - 1, most.Uint64() - 6}
	for _, n := range []int{0, 1, 3, 5, 6, 7, 8, 15, 16, 30, 31, 32, 33, 47, 62, 63} {
		if n < w {
			p := power(n).Uint64()
			out = append(out, p-1, p, p+1, most.Uint64()-p)
		}
	}
	for _, n := range []uint64{10, 0xff, 0xff80, 0x01234567, 0x89abcdef, 0xdeadbeef, 0x0123456789abcdef, 0xfedcba9876543210, 0xaaaaaaaa55555555} {
		out = append(out, n&most.Uint64())
	}
	return out
}

// steps are numbers of a type that jump about, the same at each run.
func steps(t, count int) []uint64 {
	out := make([]uint64, count)
	n := uint64(88172645463325252)
	for i := range out {
		n ^= n << 13
		n ^= n >> 7
		n ^= n << 17
		// Short numbers as well, or no quotient is more than a few.
		out[i] = n >> (64 - wide(t)) >> (uint64(i) % uint64(wide(t)))
	}
	return out
}
