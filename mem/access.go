package mem

import (
	"iter"

	"bellcrank/api"
)

// access is an operator that reads or writes: the type of its number, how many of the number's bytes stand in the memory, whether it writes, and whether what it reads brings its sign along.
type access struct {
	kind   int
	width  int
	store  bool
	signed bool
}

// accessOf answers the access that op is, if it is one.
func accessOf(op int) (access, bool) {
	a, ok := table(op)[op]
	return a, ok
}

// table answers the map that op stands in, if it is an access. It is made anew at each call, so that there is one for each run of operators and not one for all.
func table(op int) map[int]access {
	switch {
	case op < 0x30:
		return reads()
	case op < 0x36:
		return shortReads64()
	}
	return writes()
}

// reads are the accesses that read a whole number, and those that read a part of one of I32.
func reads() map[int]access {
	return map[int]access{
		0x28: {kind: api.I32, width: 4},
		0x29: {kind: api.I64, width: 8},
		0x2c: {kind: api.I32, width: 1, signed: true},
		0x2d: {kind: api.I32, width: 1},
		0x2e: {kind: api.I32, width: 2, signed: true},
		0x2f: {kind: api.I32, width: 2},
	}
}

// shortReads64 are the accesses that read a part of a number of I64.
func shortReads64() map[int]access {
	return map[int]access{
		0x30: {kind: api.I64, width: 1, signed: true},
		0x31: {kind: api.I64, width: 1},
		0x32: {kind: api.I64, width: 2, signed: true},
		0x33: {kind: api.I64, width: 2},
		0x34: {kind: api.I64, width: 4, signed: true},
		0x35: {kind: api.I64, width: 4},
	}
}

// writes are the accesses that write.
func writes() map[int]access {
	return map[int]access{
		0x36: {kind: api.I32, width: 4, store: true},
		0x37: {kind: api.I64, width: 8, store: true},
		0x3a: {kind: api.I32, width: 1, store: true},
		0x3b: {kind: api.I32, width: 2, store: true},
		0x3c: {kind: api.I64, width: 1, store: true},
		0x3d: {kind: api.I64, width: 2, store: true},
		0x3e: {kind: api.I64, width: 4, store: true},
	}
}

// fits tells whether n is a number of the access's type.
func (a access) fits(n uint64) bool { return a.kind == api.I64 || n <= most32 }

// inside tells whether all bytes of the access at a place lie in m.
func (a access) inside(m []byte, addr, off uint64) bool {
	return Inside(m, addr, off+uint64(a.width))
}

// piece is the bytes of the access at a place that lies in m.
func (a access) piece(m []byte, addr, off uint64) []byte {
	return m[addr+off:][:a.width]
}

// read answers the number that an access's bytes say.
func (a access) read(piece []byte) uint64 {
	var n uint64
	for i := range backward(piece) {
		n = n<<8 | uint64(piece[i])
	}
	if a.signed {
		spare := 64 - 8*a.width
		n = uint64(int64(n<<spare) >> spare)
	}
	if a.kind == api.I32 {
		n &= most32
	}
	return n
}

// write lays the low bytes of n into a piece, as many as it has.
func write(piece []byte, n uint64) {
	for i := range backward(piece) {
		piece[i] = byte(n >> (8 * i))
	}
}

// backward goes over the places of a number's bytes from the last one on, which is the number's highest.
func backward(piece []byte) iter.Seq[int] {
	return func(yield func(int) bool) {
		for i := len(piece) - 1; i >= 0; i-- {
			if !yield(i) {
				return
			}
		}
	}
}
