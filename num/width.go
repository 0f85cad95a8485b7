package num

import (
	"bellcrank/api"
)

// width is how many bits the numbers of a type have.
type width int

// widthOf answers the width of the type t, I32 or I64.
func widthOf(t int) width {
	if t == api.I32 {
		return 32
	}
	return 64
}

// spare is how many bits of a uint64 the numbers leave free.
func (w width) spare() int { return 64 - int(w) }

// cut answers what is left of n in w bits, which is where going round ends.
func (w width) cut(n uint64) uint64 { return n << w.spare() >> w.spare() }

// signed answers n with a sign, if its highest bit of w is set.
func (w width) signed(n uint64) int64 { return int64(n<<w.spare()) >> w.spare() }

// least answers the least number with a sign, as it stands without one.
func (w width) least() uint64 { return 1 << (w - 1) }

// most answers the greatest number, which is -1 with a sign.
func (w width) most() uint64 { return w.cut(^uint64(0)) }

// far answers how far a shift by n goes.
func (w width) far(n uint64) width { return width(n % uint64(w)) }

// turn answers a turned left by so many bits, w at most.
func (w width) turn(a uint64, by width) uint64 { return a<<by | a>>(w-by) }
