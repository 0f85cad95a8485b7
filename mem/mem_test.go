package mem_test

import (
	"bytes"
	"math"
	"testing"

	"bellcrank/api"
	"bellcrank/mem"
)

func TestP31Access(t *testing.T) {
	found := 0
	for _, op := range ops() {
		r, is := rowOf(op)
		kind, width, store, ok := mem.Access(op)
		if kind != r.of || width != r.bytes || store != r.writes || ok != is {
			t.Errorf("Access(%x): %x %d %v %v, not %x %d %v %v", op, kind, width, store, ok, r.of, r.bytes, r.writes, is)
		}
		if ok {
			found++
		}
	}
	if found != 19 || len(rows()) != 19 {
		t.Errorf("%d accesses, the test's own table has %d", found, len(rows()))
	}
}

func TestP31AccessByHand(t *testing.T) {
	for _, c := range []struct {
		op, kind, width int
		store, ok       bool
	}{
		{0x27, 0, 0, false, false}, {0x28, 0x7f, 4, false, true}, {0x29, 0x7e, 8, false, true},
		{0x2a, 0, 0, false, false}, {0x2b, 0, 0, false, false},
		{0x2c, 0x7f, 1, false, true}, {0x2d, 0x7f, 1, false, true}, {0x2e, 0x7f, 2, false, true}, {0x2f, 0x7f, 2, false, true},
		{0x30, 0x7e, 1, false, true}, {0x31, 0x7e, 1, false, true}, {0x32, 0x7e, 2, false, true}, {0x33, 0x7e, 2, false, true},
		{0x34, 0x7e, 4, false, true}, {0x35, 0x7e, 4, false, true},
		{0x36, 0x7f, 4, true, true}, {0x37, 0x7e, 8, true, true}, {0x38, 0, 0, false, false}, {0x39, 0, 0, false, false},
		{0x3a, 0x7f, 1, true, true}, {0x3b, 0x7f, 2, true, true}, {0x3c, 0x7e, 1, true, true}, {0x3d, 0x7e, 2, true, true},
		{0x3e, 0x7e, 4, true, true}, {0x3f, 0, 0, false, false}, {0x40, 0, 0, false, false},
		{0, 0, 0, false, false}, {-1, 0, 0, false, false}, {math.MinInt, 0, 0, false, false}, {math.MaxInt, 0, 0, false, false},
	} {
		kind, width, store, ok := mem.Access(c.op)
		if kind != c.kind || width != c.width || store != c.store || ok != c.ok {
			t.Errorf("Access(%x): %x %d %v %v", c.op, kind, width, store, ok)
		}
	}
}

func TestP31Inside(t *testing.T) {
	for _, count := range []int{0, 1, 7, 255, 256, 257, 768, 4096, 1 << 16} {
		m, all := make([]byte, count), uint64(count)
		numbers := []uint64{0, 1, 2, all / 2, all - all/2, all + 1, all + 2, 1<<31 - 1, 1 << 31, 1<<32 - 1, 1 << 32, 1<<32 + all, 1<<40 - 1, 1 << 40, 1<<40 + 1, 1<<40 + all, 1<<63 - 1, 1 << 63, 1<<63 + 1, -all, -all + 1, 1<<64 - 2, 1<<64 - 1}
		numbers = append(numbers, all, max(all, 1)-1)
		for _, addr := range numbers {
			for _, end := range numbers {
				inside(t, m, addr, end)
			}
		}
	}
}

func TestP31InsideByHand(t *testing.T) {
	for _, c := range []struct {
		count     int
		addr, end uint64
		want      bool
	}{
		{0, 0, 0, true}, {0, 0, 1, false}, {0, 1, 0, false}, {768, 0, 0, true},
		{768, 768, 0, true}, {768, 0, 768, true}, {768, 760, 8, true}, {768, 8, 760, true},
		{768, 769, 0, false}, {768, 0, 769, false}, {768, 761, 8, false}, {768, 760, 9, false},
		{768, 1 << 40, 0, false}, {768, 0, 1 << 40, false}, {768, 1 << 40, 1 << 40, false},
		{768, 1<<40 + 1, 0, false}, {768, 0, 1<<40 + 1, false}, {768, 1 << 32, 0, false}, {768, 0, 1 << 32, false},
		{768, 1<<64 - 1, 0, false}, {768, 0, 1<<64 - 1, false},
		{768, 1<<64 - 1, 1, false}, {768, 1, 1<<64 - 1, false}, {768, 1<<64 - 1, 2, false}, {768, 1<<64 - 8, 16, false}, {768, 16, 1<<64 - 8, false},
		{768, 1 << 63, 1 << 63, false}, {768, 1<<63 + 4, 1 << 63, false}, {768, 1<<64 - 1, 1<<64 - 1, false},
		{0, 1 << 63, 1 << 63, false}, {0, 1<<64 - 1, 1, false}, {0, 1, 1<<64 - 1, false},
	} {
		if got := mem.Inside(make([]byte, c.count), c.addr, c.end); got != c.want {
			t.Errorf("Inside of %d bytes at %d + %d: %v", c.count, c.addr, c.end, got)
		}
	}
}

func TestP32LoadByHand(t *testing.T) {
	m := []byte{0x81, 0x92, 0xa3, 0xb4, 0xc5, 0xd6, 0xe7, 0xf8, 0x12, 0x23, 0x34, 0x45, 0x56, 0x67, 0x78, 0x09}
	for _, c := range []struct {
		op       int
		neg, pos uint64
	}{
		{0x28, 0xb4a39281, 0x45342312}, {0x29, 0xf8e7d6c5b4a39281, 0x0978675645342312},
		{0x2c, 0xffffff81, 0x12}, {0x2d, 0x81, 0x12}, {0x2e, 0xffff9281, 0x2312}, {0x2f, 0x9281, 0x2312},
		{0x30, 0xffffffffffffff81, 0x12}, {0x31, 0x81, 0x12}, {0x32, 0xffffffffffff9281, 0x2312}, {0x33, 0x9281, 0x2312},
		{0x34, 0xffffffffb4a39281, 0x45342312}, {0x35, 0xb4a39281, 0x45342312},
	} {
		if n, why := mem.Load(m, c.op, 0, 0); n != c.neg || why != api.OK {
			t.Errorf("Load of %x at 0: %x %v", c.op, n, why)
		}
		for addr := range uint64(9) {
			if n, why := mem.Load(m, c.op, addr, 8-addr); n != c.pos || why != api.OK {
				t.Errorf("Load of %x at %d + %d: %x %v", c.op, addr, 8-addr, n, why)
			}
		}
	}
	if n, why := mem.Load([]byte{200}, 0x2c, 0, 0); n != 1<<32-56 || why != api.OK {
		t.Error("the document's example:", n, why)
	}
}

// TestP32LoadSign reads each kind of last byte, which alone says the sign.
func TestP32LoadSign(t *testing.T) {
	for _, r := range reads() {
		for last := range 256 {
			for _, rest := range []byte{0, 1, 0x7f, 0x80, 0xff} {
				m := bytes.Repeat([]byte{rest}, 10)
				m[r.bytes] = byte(last)
				loads(t, m, r.op, 1, 0)
			}
		}
	}
}

func TestP32Load(t *testing.T) {
	for _, m := range memories() {
		for _, place := range places(m) {
			for _, r := range reads() {
				split(place, func(addr, off uint64) { loads(t, m, r.op, addr, off) })
			}
		}
	}
}

// tooGreat are addresses and offsets that none may be.
func tooGreat() []uint64 {
	return []uint64{1 << 32, 1<<32 + 1, 1<<32 + 8, 1<<33 - 1, 1 << 40, 1<<40 + 1, 1 << 63, 1<<64 - 1<<32, 1<<64 - 8, 1<<64 - 1}
}

// noLoad holds that a Load answers nothing but why.
func noLoad(t *testing.T, m []byte, op int, addr, off uint64, want api.Errno) {
	t.Helper()
	if n, why := mem.Load(m, op, addr, off); n != 0 || why != want {
		t.Errorf("Load of %x over %d bytes at %d + %d: %x %v, not %v", op, len(m), addr, off, n, why, want)
	}
}

// noStore holds that a Store answers nothing but why.
func noStore(t *testing.T, m []byte, op int, addr, off, n uint64, want api.Errno) {
	t.Helper()
	if out, why := mem.Store(m, op, addr, off, n); out != nil || why != want {
		t.Errorf("Store of %x over %d bytes at %d + %d, %x: %x %v, not %v", op, len(m), addr, off, n, out, why, want)
	}
}

// none holds that an access answers nothing but why.
func none(t *testing.T, m []byte, r row, addr, off uint64, want api.Errno) {
	t.Helper()
	if r.writes {
		noStore(t, m, r.op, addr, off, 5, want)
		return
	}
	noLoad(t, m, r.op, addr, off, want)
}

// done holds that an access has an answer, the one that the document says.
func done(t *testing.T, m []byte, r row, addr, off uint64) {
	t.Helper()
	if r.writes {
		stores(t, m, r.op, addr, off, 5)
	} else {
		loads(t, m, r.op, addr, off)
	}
	if !lies(m, addr, off, r.bytes) {
		t.Errorf("%x at %d + %d does not lie in %d bytes", r.op, addr, off, len(m))
	}
}

func TestP32LoadNoAccess(t *testing.T) {
	m := mixed(64)
	for _, op := range ops() {
		if r, is := rowOf(op); is && !r.writes {
			continue
		}
		noLoad(t, m, op, 0, 0, api.ErrArg)
		noLoad(t, m, op, 8, 8, api.ErrArg)
		noLoad(t, m, op, 64, 0, api.ErrArg)
		noLoad(t, m, op, 1<<32-1, 1<<32-1, api.ErrArg)
		noLoad(t, m, op, 1<<32, 0, api.ErrArg)
		noLoad(t, nil, op, 0, 0, api.ErrArg)
	}
}

func TestP32TooGreat(t *testing.T) {
	for _, m := range [][]byte{nil, mixed(1), mixed(768)} {
		for _, r := range rows() {
			for _, n := range tooGreat() {
				none(t, m, r, n, 0, api.ErrArg)
				none(t, m, r, 0, n, api.ErrArg)
				none(t, m, r, n, n, api.ErrArg)
				none(t, m, r, n, -n, api.ErrArg)
				none(t, m, r, n, 1<<32-1, api.ErrArg)
				none(t, m, r, 1<<32-1, n, api.ErrArg)
			}
		}
	}
}

// TestP32LastPlace asks at the last place that may be, and at those behind it.
func TestP32LastPlace(t *testing.T) {
	for _, count := range []int{8, 9, 256, 768, 4096} {
		m, all := mixed(count), uint64(count)
		for _, r := range rows() {
			last := all - uint64(r.bytes)
			split(last, func(addr, off uint64) { done(t, m, r, addr, off) })
			for place := last + 1; place < all+10; place++ {
				split(place, func(addr, off uint64) { none(t, m, r, addr, off, api.TrapMem) })
			}
		}
	}
}

func TestP32TooShort(t *testing.T) {
	for _, r := range rows() {
		for count := range r.bytes {
			for place := range uint64(10) {
				split(place, func(addr, off uint64) { none(t, mixed(count), r, addr, off, api.TrapMem) })
			}
		}
		done(t, mixed(r.bytes), r, 0, 0)
	}
}

// TestP32FarPlaces asks at places that would lie in the memory, if their sums went round at 32 bits or below.
func TestP32FarPlaces(t *testing.T) {
	for _, m := range [][]byte{nil, mixed(16), mixed(4096)} {
		for _, r := range rows() {
			for _, n := range []uint64{1 << 16, 1<<31 - 1, 1 << 31, 1<<32 - 8, 1<<32 - 4, 1<<32 - 1} {
				for _, rest := range []uint64{0, 1, 4, 8, 9, 1 << 31, 1<<32 - n, 1<<32 - 1} {
					if rest < 1<<32 {
						none(t, m, r, n, rest, api.TrapMem)
						none(t, m, r, rest, n, api.TrapMem)
					}
				}
			}
		}
	}
}

// TestP32NothingBehind holds that bytes behind the memory's end, where there is room, are none of it.
func TestP32NothingBehind(t *testing.T) {
	whole := mixed(64)
	for _, r := range rows() {
		for count := range 24 {
			m := whole[:count]
			for place := max(0, count-r.bytes+1); place <= count; place++ {
				none(t, m, r, uint64(place), 0, api.TrapMem)
				none(t, m, r, 0, uint64(place), api.TrapMem)
			}
		}
	}
	if !bytes.Equal(whole, mixed(64)) {
		t.Error("bytes behind the memory's end turned")
	}
}

func TestP32StoreByHand(t *testing.T) {
	for _, c := range []struct {
		op   int
		n    uint64
		want []byte
	}{
		{0x36, 0x89abcdef, []byte{7, 7, 0xef, 0xcd, 0xab, 0x89, 7, 7, 7, 7, 7, 7}},
		{0x37, 0x0123456789abcdef, []byte{7, 7, 0xef, 0xcd, 0xab, 0x89, 0x67, 0x45, 0x23, 0x01, 7, 7}},
		{0x3a, 0x89abcdef, []byte{7, 7, 0xef, 7, 7, 7, 7, 7, 7, 7, 7, 7}},
		{0x3b, 0x89abcdef, []byte{7, 7, 0xef, 0xcd, 7, 7, 7, 7, 7, 7, 7, 7}},
		{0x3c, 0x0123456789abcdef, []byte{7, 7, 0xef, 7, 7, 7, 7, 7, 7, 7, 7, 7}},
		{0x3d, 0x0123456789abcdef, []byte{7, 7, 0xef, 0xcd, 7, 7, 7, 7, 7, 7, 7, 7}},
		{0x3e, 0x0123456789abcdef, []byte{7, 7, 0xef, 0xcd, 0xab, 0x89, 7, 7, 7, 7, 7, 7}},
	} {
		m := bytes.Repeat([]byte{7}, 12)
		for addr := range uint64(3) {
			if out, why := mem.Store(m, c.op, addr, 2-addr, c.n); why != api.OK || !bytes.Equal(out, c.want) {
				t.Errorf("Store of %x at %d + %d: %x %v", c.op, addr, 2-addr, out, why)
			}
		}
	}
}

// numbersOf are numbers of a type about which a writer may err.
func numbersOf(of int) []uint64 {
	out := []uint64{0, 1, 0x7f, 0x80, 0xff, 0x100, 0x7fff, 0x8000, 0xffff, 0x10000, 0x01234567, 0x89abcdef, 1<<31 - 1, 1 << 31, 1<<32 - 1}
	if of == api.I64 {
		out = append(out, 1<<32, 1<<32+1, 0x0123456789abcdef, 0xfedcba9876543210, 1<<63-1, 1<<63, 1<<64-2, 1<<64-1)
	}
	return out
}

func TestP32Store(t *testing.T) {
	for _, m := range memories() {
		for _, r := range writes() {
			for i, place := range places(m) {
				of := numbersOf(r.of)
				split(place, func(addr, off uint64) { stores(t, m, r.op, addr, off, of[i%len(of)]) })
			}
		}
	}
	for _, r := range writes() {
		for _, n := range numbersOf(r.of) {
			for _, place := range places(mixed(16)) {
				stores(t, mixed(16), r.op, place, 0, n)
			}
		}
	}
}

func TestP32StoreNoAccess(t *testing.T) {
	m := mixed(64)
	for _, op := range ops() {
		if r, is := rowOf(op); is && r.writes {
			continue
		}
		for _, n := range []uint64{0, 5, 1<<32 - 1, 1 << 32, 1<<64 - 1} {
			noStore(t, m, op, 0, 0, n, api.ErrArg)
			noStore(t, m, op, 8, 8, n, api.ErrArg)
			noStore(t, m, op, 64, 0, n, api.ErrArg)
			noStore(t, m, op, 1<<32-1, 1<<32-1, n, api.ErrArg)
			noStore(t, nil, op, 0, 0, n, api.ErrArg)
		}
	}
}

// TestP32StoreNoNumber hands the writers of I32 what is no number of it, also where the low bytes that they write are the same, ahead of any trap.
func TestP32StoreNoNumber(t *testing.T) {
	for _, r := range writes() {
		for _, n := range []uint64{1 << 32, 1<<32 + 1, 1<<33 - 1, 1 << 40, 1 << 63, 1<<64 - 1<<31, 1<<64 - 1} {
			for _, m := range [][]byte{nil, mixed(1), mixed(8), mixed(768)} {
				for _, addr := range []uint64{0, 760, 769, 1<<32 - 1} {
					if r.of == api.I32 {
						noStore(t, m, r.op, addr, 0, n, api.ErrArg)
					}
					stores(t, m, r.op, addr, 0, n)
				}
			}
		}
		most := uint64(1<<32 - 1)
		if r.of == api.I64 {
			most = 1<<64 - 1
		}
		want := append(bytes.Repeat([]byte{0xff}, r.bytes), make([]byte, 10-r.bytes)...)
		if out, why := mem.Store(make([]byte, 10), r.op, 0, 0, most); why != api.OK || !bytes.Equal(out, want) {
			t.Errorf("Store of %x of the greatest number: %x %v", r.op, out, why)
		}
	}
}

func TestP33Grow(t *testing.T) {
	for _, count := range []int{0, 1, 255, 256, 257, 511, 512, 768, 3840, 4095, 4096, 4097, 4352, 8192, 1 << 16} {
		m := mixed(count)
		for _, pages := range []uint64{0, 1, 2, 3, 13, 14, 15, 16, 17, 255, 256, 1<<24 - 1, 1 << 24, 1<<24 + 1, 1<<32 - 1, 1 << 32, 1<<32 + 1, 1 << 55, 1 << 56, 1<<56 + 1, 1<<63 - 1, 1 << 63, 1<<63 + 1, -uint64(count / 256), 1<<64 - 2, 1<<64 - 1} {
			would := count + int(pages%64)*256
			for _, most := range []int{math.MinInt, -4096, -1, 0, 1, would - 1, would, would + 1, count - 1, count, count + 1, 3840, 4095, 4096, 4097, 1 << 20, math.MaxInt} {
				grows(t, m, most, pages)
			}
		}
	}
}

func TestP33GrowByHand(t *testing.T) {
	const refused = 1<<32 - 1
	for _, c := range []struct {
		count, most int
		pages       uint64
		want        int
		had         uint64
	}{
		{0, 0, 0, 0, 0}, {0, 4096, 0, 0, 0}, {0, 4096, 1, 256, 0}, {0, 4096, 16, 4096, 0}, {0, 4096, 17, 0, refused},
		{768, 4096, 0, 768, 3}, {768, 4096, 1, 1024, 3}, {768, 4096, 13, 4096, 3}, {768, 4096, 14, 768, refused},
		{768, 1023, 1, 768, refused}, {768, 1024, 1, 1024, 3}, {768, 1025, 1, 1024, 3}, {768, 1024, 2, 768, refused},
		{768, 767, 0, 768, refused}, {768, 768, 0, 768, 3}, {768, 0, 0, 768, refused}, {768, -1, 0, 768, refused},
		{768, math.MaxInt, 13, 4096, 3}, {768, math.MaxInt, 14, 768, refused}, {768, math.MaxInt, 1<<64 - 1, 768, refused},
		{768, math.MaxInt, 1<<64 - 3, 768, refused}, {768, math.MaxInt, 1 << 56, 768, refused}, {768, math.MaxInt, 1 << 32, 768, refused},
		{768, math.MinInt, 0, 768, refused}, {0, -1, 0, 0, refused}, {0, -1, 1, 0, refused},
		{4096, 4096, 0, 4096, 16}, {4096, 8192, 0, 4096, 16}, {4096, 8192, 1, 4096, refused}, {4096, 4095, 0, 4096, refused},
		{4352, 8192, 0, 4352, refused}, {4352, 8192, 1, 4352, refused}, {4352, 8192, 1<<64 - 1, 4352, refused},
		{1, 4096, 0, 1, refused}, {1, 4096, 1, 1, refused}, {255, 4096, 0, 255, refused}, {257, 4096, 0, 257, refused}, {257, 4096, 1, 257, refused}, {700, 4096, 2, 700, refused},
	} {
		m := mixed(c.count)
		out, had := mem.Grow(m, c.most, c.pages)
		want := append(mixed(c.count), make([]byte, c.want-c.count)...)
		if had != c.had || !bytes.Equal(out, want) {
			t.Errorf("Grow of %d bytes, most %d, by %d: %d bytes, %d", c.count, c.most, c.pages, len(out), had)
		}
	}
}

// TestP33GrowClean grows a memory that has other bytes behind it, where there is room.
func TestP33GrowClean(t *testing.T) {
	whole := bytes.Repeat([]byte{77}, 8192)
	for pages := range uint64(14) {
		out, had := mem.Grow(whole[:768], 4096, pages)
		want := append(bytes.Repeat([]byte{77}, 768), make([]byte, 256*pages)...)
		if had != 3 || !bytes.Equal(out, want) {
			t.Errorf("Grow by %d: %d bytes, %d", pages, len(out), had)
		}
	}
	if !bytes.Equal(whole, bytes.Repeat([]byte{77}, 8192)) {
		t.Error("Grow wrote into what it was handed")
	}
}

// TestP34ReadBack reads what was written by each access of as many bytes.
func TestP34ReadBack(t *testing.T) {
	count := 0
	for _, w := range writes() {
		for _, r := range reads() {
			if r.bytes != w.bytes {
				continue
			}
			count++
			for _, n := range numbersOf(w.of) {
				for _, place := range []uint64{0, 1, 3, 8, 40 - uint64(w.bytes)} {
					out, why := mem.Store(mixed(40), w.op, place, 0, n)
					if why != api.OK {
						t.Fatalf("Store of %x at %d, %x: %v", w.op, place, n, why)
					}
					low := n << (64 - 8*w.bytes) >> (64 - 8*w.bytes)
					if r.signed && low>>(8*w.bytes-1) == 1 {
						low |= ^uint64(0) << (8 * w.bytes)
					}
					if r.of == api.I32 {
						low = uint64(uint32(low))
					}
					if have, why := mem.Load(out, r.op, place, 0); have != low || why != api.OK {
						t.Errorf("%x wrote %x, %x reads %x %v, not %x", w.op, n, r.op, have, why, low)
					}
				}
			}
		}
	}
	if count != 2*4+2*4+2*3+1 {
		t.Errorf("%d accesses of as many bytes", count)
	}
}

// TestP34OtherBytes reads each byte that was not written.
func TestP34OtherBytes(t *testing.T) {
	for _, w := range writes() {
		for place := range 40 - w.bytes + 1 {
			m := mixed(40)
			out, why := mem.Store(m, w.op, uint64(place), 0, 0)
			if why != api.OK || len(out) != len(m) {
				t.Fatalf("Store of %x at %d: %d bytes, %v", w.op, place, len(out), why)
			}
			for i := range m {
				n, why := mem.Load(out, 0x2d, uint64(i), 0)
				written := i >= place && i < place+w.bytes
				if why != api.OK || written && n != 0 || !written && n != uint64(m[i]) {
					t.Errorf("Store of %x at %d: byte %d is %x %v, was %x", w.op, place, i, n, why, m[i])
				}
			}
		}
	}
}

// TestP34OneBehindTheOther writes over what was written.
func TestP34OneBehindTheOther(t *testing.T) {
	m := make([]byte, 16)
	for i, n := range []uint64{0x1111111111111111, 0x2222222222222222, 0x3333333333333333} {
		out, why := mem.Store(m, 0x37, uint64(i), uint64(2*i), n)
		if why != api.OK {
			t.Fatal(why)
		}
		m = out
	}
	want := []byte{0x11, 0x11, 0x11, 0x22, 0x22, 0x22, 0x33, 0x33, 0x33, 0x33, 0x33, 0x33, 0x33, 0x33, 0, 0}
	if !bytes.Equal(m, want) {
		t.Errorf("%x, not %x", m, want)
	}
}

// TestP35Grown holds that all that was there is there, that the rest reads as 0, and that what was inside is inside.
func TestP35Grown(t *testing.T) {
	for _, count := range []int{0, 256, 512, 1024} {
		m := mixed(count)
		for _, pages := range []uint64{0, 1, 2, 12} {
			out, had := mem.Grow(m, 4096, pages)
			if had != uint64(count/256) || len(out) != count+256*int(pages) {
				t.Fatalf("Grow of %d bytes by %d: %d bytes, %d", count, pages, len(out), had)
			}
			for _, place := range places(m) {
				for _, r := range reads() {
					was, whyWas := mem.Load(m, r.op, place, 0)
					is, why := mem.Load(out, r.op, place, 0)
					if whyWas == api.OK && (was != is || why != api.OK) {
						t.Errorf("Load of %x at %d: %x, and %x %v behind Grow by %d", r.op, place, was, is, why, pages)
					}
					if place >= uint64(count) && why == api.OK && is != 0 {
						t.Errorf("Load of %x at %d behind Grow by %d: %x", r.op, place, pages, is)
					}
				}
				split(place, func(addr, end uint64) {
					if mem.Inside(m, addr, end) && !mem.Inside(out, addr, end) {
						t.Errorf("%d + %d is inside %d bytes, and not behind Grow by %d", addr, end, count, pages)
					}
				})
			}
			if !mem.Inside(out, uint64(count), 256*pages) || mem.Inside(out, uint64(count)+1, 256*pages) {
				t.Errorf("Inside of %d bytes behind Grow by %d", count, pages)
			}
		}
	}
}
