package num

import (
	"math/bits"

	"bellcrank/api"
)

// The operators of I32, and those that turn one type into the other.
const (
	eqz     = 0x45
	eq      = 0x46
	ne      = 0x47
	ltS     = 0x48
	ltU     = 0x49
	gtS     = 0x4a
	gtU     = 0x4b
	leS     = 0x4c
	leU     = 0x4d
	geS     = 0x4e
	geU     = 0x4f
	clz     = 0x67
	ctz     = 0x68
	popcnt  = 0x69
	add     = 0x6a
	sub     = 0x6b
	mul     = 0x6c
	divS    = 0x6d
	divU    = 0x6e
	remS    = 0x6f
	remU    = 0x70
	and     = 0x71
	or      = 0x72
	xor     = 0x73
	shl     = 0x74
	shrS    = 0x75
	shrU    = 0x76
	rotl    = 0x77
	rotr    = 0x78
	wrap    = 0xa7
	extendS = 0xac
	extendU = 0xad
	low8    = 0xc0
	low16   = 0xc1
	low32   = 0xc2 // I64 alone has it: the number that I32's would have behind low16
)

// ofOne and ofTwo are what operators do. They are handed the width of what they take, and may leave bits above the width of what they answer.
type (
	ofOne = func(w width, a uint64) uint64
	ofTwo = func(w width, a, b uint64) uint64
)

// one answers what an operator of one number does.
func one(like int) ofOne {
	if like < wrap {
		return counts()[like]
	}
	return turns()[like]
}

// two answers what an operator of two numbers does. Its table is made anew at each call, so that it is kept to its own kind.
func two(like int) ofTwo {
	switch {
	case like < add:
		return compares(like)
	case divides(like):
		return divisions()[like]
	case like < shl:
		return sums()[like]
	}
	return shifts()[like]
}

// divides tells whether an operator is a division.
func divides(like int) bool { return like >= divS && like <= remU }

// trap answers why an operator of two numbers has no answer.
func trap(like int, w width, a, b uint64) api.Errno {
	switch {
	case !divides(like):
		return api.OK
	case b == 0:
		return api.TrapZero
	case like == divS && a == w.least() && b == w.most():
		return api.TrapOver
	}
	return api.OK
}

// counts are the operators that ask for a number's bits.
func counts() map[int]ofOne {
	return map[int]ofOne{
		eqz:    func(_ width, a uint64) uint64 { return truth(a == 0) },
		clz:    func(w width, a uint64) uint64 { return uint64(bits.LeadingZeros64(a) - w.spare()) },
		ctz:    func(w width, a uint64) uint64 { return uint64(min(bits.TrailingZeros64(a), int(w))) },
		popcnt: func(_ width, a uint64) uint64 { return uint64(bits.OnesCount64(a)) },
	}
}

// turns are the operators that write a number in another width.
func turns() map[int]ofOne {
	return map[int]ofOne{
		wrap:    func(_ width, a uint64) uint64 { return a },
		extendS: func(w width, a uint64) uint64 { return uint64(w.signed(a)) },
		extendU: func(_ width, a uint64) uint64 { return a },
		low8:    func(_ width, a uint64) uint64 { return uint64(width(8).signed(a)) },
		low16:   func(_ width, a uint64) uint64 { return uint64(width(16).signed(a)) },
		low32:   func(_ width, a uint64) uint64 { return uint64(width(32).signed(a)) },
	}
}

// compares answers what a comparison does.
func compares(like int) ofTwo {
	if holds, signed := signedOrders()[like]; signed {
		return func(w width, a, b uint64) uint64 { return truth(holds(w.signed(a), w.signed(b))) }
	}
	holds := orders()[like]
	return func(_ width, a, b uint64) uint64 { return truth(holds(a, b)) }
}

// signedOrders are the comparisons of numbers with a sign.
func signedOrders() map[int]func(a, b int64) bool {
	return map[int]func(a, b int64) bool{
		ltS: func(a, b int64) bool { return a < b },
		gtS: func(a, b int64) bool { return a > b },
		leS: func(a, b int64) bool { return a <= b },
		geS: func(a, b int64) bool { return a >= b },
	}
}

// orders are the comparisons of numbers as they stand.
func orders() map[int]func(a, b uint64) bool {
	return map[int]func(a, b uint64) bool{
		eq:  func(a, b uint64) bool { return a == b },
		ne:  func(a, b uint64) bool { return a != b },
		ltU: func(a, b uint64) bool { return a < b },
		gtU: func(a, b uint64) bool { return a > b },
		leU: func(a, b uint64) bool { return a <= b },
		geU: func(a, b uint64) bool { return a >= b },
	}
}

// sums are the operators whose lower bits hang on lower bits alone.
func sums() map[int]ofTwo {
	return map[int]ofTwo{
		add: func(_ width, a, b uint64) uint64 { return a + b },
		sub: func(_ width, a, b uint64) uint64 { return a - b },
		mul: func(_ width, a, b uint64) uint64 { return a * b },
		and: func(_ width, a, b uint64) uint64 { return a & b },
		or:  func(_ width, a, b uint64) uint64 { return a | b },
		xor: func(_ width, a, b uint64) uint64 { return a ^ b },
	}
}

// divisions are the operators that may trap. What traps is asked ahead of them.
func divisions() map[int]ofTwo {
	return map[int]ofTwo{
		divS: func(w width, a, b uint64) uint64 { return uint64(w.signed(a) / w.signed(b)) },
		divU: func(_ width, a, b uint64) uint64 { return a / b },
		remS: func(w width, a, b uint64) uint64 { return uint64(w.signed(a) % w.signed(b)) },
		remU: func(_ width, a, b uint64) uint64 { return a % b },
	}
}

// shifts are the operators whose second number says how far.
func shifts() map[int]ofTwo {
	return map[int]ofTwo{
		shl:  func(w width, a, b uint64) uint64 { return a << w.far(b) },
		shrS: func(w width, a, b uint64) uint64 { return uint64(w.signed(a) >> w.far(b)) },
		shrU: func(w width, a, b uint64) uint64 { return a >> w.far(b) },
		rotl: func(w width, a, b uint64) uint64 { return w.turn(a, w.far(b)) },
		rotr: func(w width, a, b uint64) uint64 { return w.turn(a, w-w.far(b)) },
	}
}

// truth is how operators answer whether something holds.
func truth(holds bool) uint64 {
	if holds {
		return 1
	}
	return 0
}
