// Package leb is layer 1: numbers of a module's bytes, written in groups of seven bits, the lowest first.
package leb

import (
	"bellcrank/api"
)

const (
	groupBits = 7    // the bits of a group
	groupMask = 0x7f // a byte without the mark
	groupMore = 0x80 // the mark of a byte that another one follows
	most64    = 10   // the most groups of a number of 64 bits
)

// number is what groups are read as: without a sign, or with one.
type number interface {
	int64 | uint64
}

// PutU answers b's bytes with n, a number without a sign, behind them.
func PutU(b []byte, n uint64) []byte { return put(b, n) }

// PutS answers b's bytes with n, a number with a sign, behind them.
func PutS(b []byte, n int64) []byte { return put(b, n) }

// U reads the number without a sign that begins at at, and answers it and the place behind it, or what is wrong.
func U(b []byte, at, bits int) (uint64, int, api.Fault) { return read[uint64](b, at, bits) }

// S reads the number with a sign that begins at at, and answers it and the place behind it, or what is wrong.
func S(b []byte, at, bits int) (int64, int, api.Fault) { return read[int64](b, at, bits) }

// Size answers how many groups PutU needs for n.
func Size(n uint64) int {
	groups := 1
	for n > groupMask {
		n >>= groupBits
		groups++
	}
	return groups
}

// put writes into memory of its own: an append to b could reach bytes of the caller's behind it.
func put[N number](b []byte, n N) []byte {
	out := make([]byte, len(b), len(b)+most64)
	copy(out, b)
	for low(n, groupBits) != n {
		out = append(out, byte(n)|groupMore)
		n >>= groupBits
	}
	return append(out, byte(n)&groupMask)
}

// read reads a number of 32 or 64 bits. It ends at the last byte that may be, as one that another one would follow does not fit there.
func read[N number](b []byte, at, bits int) (N, int, api.Fault) {
	if bits != 32 && bits != 64 || at < 0 || at > len(b) {
		return 0, 0, api.Fault{Why: api.ErrArg, At: at}
	}
	var n N
	for have := 0; ; have += groupBits {
		if at == len(b) {
			return 0, 0, api.Fault{Why: api.ErrEnd, At: at}
		}
		c := b[at]
		if room := bits - have; room < groupBits && !fitsLast[N](c, room) {
			return 0, 0, api.Fault{Why: api.ErrLeb, At: at}
		}
		n |= N(c&groupMask) << have
		at++
		if c&groupMore == 0 {
			return low(n, min(have+groupBits, 64)), at, api.Fault{}
		}
	}
}

// fitsLast tells whether c may be the last byte that a number may have, where it has room for so many bits of c: the bits above must say nothing that these do not.
func fitsLast[N number](c byte, room int) bool {
	return c&groupMore == 0 && low(N(c), groupBits) == low(N(c), room)
}

// low answers the number that the lowest bits of n are. The shift back is why it is generic: it brings the sign along in a number that has one, and zeros in another one.
func low[N number](n N, bits int) N {
	spare := 64 - bits
	return n << spare >> spare
}
