package mem_test

import (
	"bytes"
	"math"
	"math/big"
	"testing"

	"bellcrank/api"
	"bellcrank/mem"
)

// row is an access as the document's table tells it.
type row struct {
	op     int
	of     int
	bytes  int
	signed bool
	writes bool
}

// rows are the document's table, rising.
func rows() []row {
	var out []row
	line := func(op, of, bytes int, how string) {
		out = append(out, row{op, of, bytes, how == "signed", how == "written"})
	}
	for i, of := range []int{api.I32, api.I64} {
		line(0x28+i, of, 4+4*i, "as it is")
	}
	for i, bytes := range []int{1, 1, 2, 2} {
		line(0x2c+i, api.I32, bytes, []string{"signed", "as it is"}[i%2])
	}
	for i, bytes := range []int{1, 1, 2, 2, 4, 4} {
		line(0x30+i, api.I64, bytes, []string{"signed", "as it is"}[i%2])
	}
	for i, of := range []int{api.I32, api.I64} {
		line(0x36+i, of, 4+4*i, "written")
	}
	for i, bytes := range []int{1, 2} {
		line(0x3a+i, api.I32, bytes, "written")
	}
	for i, bytes := range []int{1, 2, 4} {
		line(0x3c+i, api.I64, bytes, "written")
	}
	return out
}

// rowOf answers the document's row of an access, and whether there is one.
func rowOf(op int) (row, bool) {
	for _, r := range rows() {
		if r.op == op {
			return r, true
		}
	}
	return row{}, false
}

// reads and writes are the rows of the one kind and of the other one.
func reads() []row  { return rowsThat(func(r row) bool { return !r.writes }) }
func writes() []row { return rowsThat(func(r row) bool { return r.writes }) }

func rowsThat(holds func(row) bool) []row {
	var out []row
	for _, r := range rows() {
		if holds(r) {
			out = append(out, r)
		}
	}
	return out
}

// wide is how many bits the numbers of a type have.
func wide(of int) int {
	if of == api.I32 {
		return 32
	}
	return 64
}

// power is 2^n.
func power(n int) *big.Int { return new(big.Int).Lsh(big.NewInt(1), uint(n)) }

func number(n uint64) *big.Int { return new(big.Int).SetUint64(n) }

// sum adds numbers, and never goes round.
func sum(all ...*big.Int) *big.Int {
	out := new(big.Int)
	for _, n := range all {
		out.Add(out, n)
	}
	return out
}

// above tells whether n is none of 32 bits.
func above(n uint64) bool { return number(n).Cmp(power(32)) >= 0 }

// lies tells whether so many bytes at a place all lie in m.
func lies(m []byte, addr, off uint64, count int) bool {
	end := sum(number(addr), number(off), big.NewInt(int64(count)))
	return end.Cmp(big.NewInt(int64(len(m)))) <= 0
}

// expectLoad is what the document says of Load: by products and sums, where the program takes shifts.
func expectLoad(m []byte, op int, addr, off uint64) (uint64, api.Errno) {
	r, ok := rowOf(op)
	if !ok || r.writes || above(addr) || above(off) {
		return 0, api.ErrArg
	}
	if !lies(m, addr, off, r.bytes) {
		return 0, api.TrapMem
	}
	n := new(big.Int)
	for i := range r.bytes {
		n.Add(n, new(big.Int).Mul(big.NewInt(int64(m[addr+off+uint64(i)])), power(8*i)))
	}
	if r.signed && n.Cmp(power(8*r.bytes-1)) >= 0 {
		n.Sub(n, power(8*r.bytes))
	}
	return n.Mod(n, power(wide(r.of))).Uint64(), api.OK
}

// expectStore is what the document says of Store.
func expectStore(m []byte, op int, addr, off, n uint64) ([]byte, api.Errno) {
	r, ok := rowOf(op)
	if !ok || !r.writes || above(addr) || above(off) || number(n).Cmp(power(wide(r.of))) >= 0 {
		return nil, api.ErrArg
	}
	if !lies(m, addr, off, r.bytes) {
		return nil, api.TrapMem
	}
	out := bytes.Clone(m)
	rest := number(n)
	for i := range r.bytes {
		digit := new(big.Int)
		rest.DivMod(rest, big.NewInt(256), digit)
		out[addr+off+uint64(i)] = byte(digit.Int64())
	}
	return out, api.OK
}

// expectGrow is what the document says of Grow.
func expectGrow(m []byte, most int, pages uint64) ([]byte, uint64) {
	have := len(m) / 256
	would := sum(big.NewInt(int64(have)), number(pages))
	size := new(big.Int).Mul(would, big.NewInt(256))
	if len(m)%256 != 0 || size.Cmp(big.NewInt(int64(most))) > 0 || would.Cmp(big.NewInt(16)) > 0 {
		return m, 4294967295
	}
	return append(bytes.Clone(m), make([]byte, size.Int64()-int64(len(m)))...), uint64(have)
}

// expectInside is what the document says of Inside.
func expectInside(m []byte, addr, end uint64) bool {
	most := power(40)
	return number(addr).Cmp(most) <= 0 && number(end).Cmp(most) <= 0 && lies(m, addr, end, 0)
}

// loads holds one Load against the document's words.
func loads(t *testing.T, m []byte, op int, addr, off uint64) {
	t.Helper()
	before := bytes.Clone(m)
	want, trap := expectLoad(m, op, addr, off)
	if n, why := mem.Load(m, op, addr, off); n != want || why != trap {
		t.Errorf("Load of %x over %d bytes at %d + %d: %x %v, not %x %v", op, len(m), addr, off, n, why, want, trap)
	}
	if !bytes.Equal(m, before) {
		t.Errorf("Load of %x at %d + %d turned %x into %x", op, addr, off, before, m)
	}
}

// stores holds one Store against the document's words.
func stores(t *testing.T, m []byte, op int, addr, off, n uint64) {
	t.Helper()
	before := bytes.Clone(m)
	want, trap := expectStore(m, op, addr, off, n)
	out, why := mem.Store(m, op, addr, off, n)
	if why != trap || !bytes.Equal(out, want) || why != api.OK && out != nil {
		t.Errorf("Store of %x over %d bytes at %d + %d, %x: %x %v, not %x %v", op, len(m), addr, off, n, out, why, want, trap)
	}
	if !bytes.Equal(m, before) {
		t.Errorf("Store of %x at %d + %d, %x turned %x into %x", op, addr, off, n, before, m)
	}
}

// grows holds one Grow against the document's words.
func grows(t *testing.T, m []byte, most int, pages uint64) {
	t.Helper()
	before := bytes.Clone(m)
	want, had := expectGrow(m, most, pages)
	out, n := mem.Grow(m, most, pages)
	if n != had || !bytes.Equal(out, want) {
		t.Errorf("Grow of %d bytes, most %d, by %d: %d bytes, %d, not %d bytes, %d", len(m), most, pages, len(out), n, len(want), had)
	}
	if !bytes.Equal(m, before) {
		t.Errorf("Grow of %d bytes, most %d, by %d turned what it was handed", len(m), most, pages)
	}
}

// inside holds one Inside against the document's words.
func inside(t *testing.T, m []byte, addr, end uint64) {
	t.Helper()
	if got, want := mem.Inside(m, addr, end), expectInside(m, addr, end); got != want {
		t.Errorf("Inside of %d bytes at %d + %d: %v", len(m), addr, end, got)
	}
}

// ops go from below 0 to above the table's last access, and stand where one cut to fewer bits would be an access.
func ops() []int {
	out := []int{math.MinInt, math.MinInt + 0x28, math.MinInt32, math.MaxInt32, math.MaxInt, 1<<8 + 0x28, 1<<8 + 0x36, 1<<16 + 0x2c, 1<<32 + 0x28, 1<<32 + 0x3e, -0x28, -0x36}
	for op := -300; op < 0x300; op++ {
		out = append(out, op)
	}
	return out
}

// mixed are count bytes, some with the highest bit and some without it, no two neighbours the same.
func mixed(count int) []byte {
	out := make([]byte, count)
	for i := range out {
		out[i] = byte(i*103 + 57)
	}
	return out
}

// memories are memories of some lengths, and of some kinds of bytes.
func memories() [][]byte {
	var out [][]byte
	for _, count := range []int{0, 1, 2, 3, 4, 5, 7, 8, 9, 16, 21, 256, 512} {
		out = append(out, mixed(count), bytes.Repeat([]byte{0xff}, count), bytes.Repeat([]byte{0x80}, count), bytes.Repeat([]byte{0x7f}, count), make([]byte, count))
	}
	return out
}

// places are places about the begin and the end of m: the address and the offset together.
func places(m []byte) []uint64 {
	var out []uint64
	for i := range min(len(m)+12, 24) {
		out = append(out, uint64(i))
	}
	for i := max(24, len(m)-12); i < len(m)+12; i++ {
		out = append(out, uint64(i))
	}
	return out
}

// split calls f with some addresses and offsets that are a place together.
func split(place uint64, f func(addr, off uint64)) {
	f(place, 0)
	f(0, place)
	f(place/2, place-place/2)
	f(place-place/3, place/3)
}
