package wasm

import (
	"bytes"
	"slices"

	"bellcrank/api"
	"bellcrank/leb"
)

// reader goes over bytes from at on. They end where the part ends that is read, so that all of a section or a body sees that end as the end of all bytes.
type reader struct {
	b  []byte
	at int
}

// wrong is thrown where a byte is wrong: from within blocks within one another, none of which need hand it on.
type wrong struct {
	why api.Errno
	at  int
}

func fail(why api.Errno, at int) { panic(wrong{why, at}) }

// hold throws what layer 1 tells of a number.
func hold(f api.Fault) {
	if f.Why != api.OK {
		fail(f.Why, f.At)
	}
}

// octet answers the next byte.
func (r *reader) octet() int {
	if r.at == len(r.b) {
		fail(api.ErrEnd, r.at)
	}
	r.at++
	return int(r.b[r.at-1])
}

// one answers the next byte, which must be one of these. Those that are left out belong to parts of the language that are.
func (r *reader) one(these []int, leftOut ...int) int {
	at := r.at
	c := r.octet()
	switch {
	case slices.Contains(leftOut, c):
		fail(api.ErrFloat, at)
	case !slices.Contains(these, c):
		fail(api.ErrForm, at)
	}
	return c
}

// u answers the next number without a sign, of 32 bits.
func (r *reader) u() int {
	n, next, fault := leb.U(r.b, r.at, 32)
	hold(fault)
	r.at = next
	return int(n)
}

// s answers the next number with a sign.
func (r *reader) s(bits int) int64 {
	n, next, fault := leb.S(r.b, r.at, bits)
	hold(fault)
	r.at = next
	return n
}

// low32 answers the low bits of the next number with a sign, of 32 bits.
func (r *reader) low32() uint64 { return uint64(uint32(r.s(32))) }

// most answers the next number without a sign, which is at most so much.
func (r *reader) most(limit int) int {
	at := r.at
	n := r.u()
	if n > limit {
		fail(api.ErrMany, at)
	}
	return n
}

// kind answers the next byte, which must be the type of a value.
func (r *reader) kind() int { return r.one([]int{api.I32, api.I64}, byteF32, byteF64) }

// name answers the next name.
func (r *reader) name() string {
	text := make([]byte, r.most(api.MaxName))
	for i := range text {
		at := r.at
		c := r.octet()
		if c < leastText || c > mostText {
			fail(api.ErrName, at)
		}
		text[i] = byte(c)
	}
	return string(text)
}

// skip goes past so many bytes, and answers the place behind them.
func (r *reader) skip(size int) int {
	if size > len(r.b)-r.at {
		fail(api.ErrEnd, len(r.b))
	}
	r.at += size
	return r.at
}

// part answers a reader of the next part, which begins with how many bytes it has, and goes past it.
func (r *reader) part() *reader {
	size := r.u()
	begin := r.at
	return &reader{b: r.b[:r.skip(size)], at: begin}
}

// copied answers so many bytes in memory of their own.
func (r *reader) copied(size int) []byte {
	begin := r.at
	return bytes.Clone(r.b[begin:r.skip(size)])
}

// close ends the reading of a part.
func (r *reader) close() {
	if r.at < len(r.b) {
		fail(api.ErrForm, r.at)
	}
}

// list answers what stands behind a count, which is at most so much.
func list[T any](r *reader, limit int, next func(*reader) T) []T {
	l := make([]T, r.most(limit))
	for i := range l {
		l[i] = next(r)
	}
	return l
}
