package wasm_test

import (
	"bytes"
	"testing"

	"bellcrank/api"
	"bellcrank/wasm"
)

// modules are some that some bytes are.
func modules(count int) []api.Module {
	l := []api.Module{empty(), rich()}
	for seed := range count {
		d := dice(1000 + seed)
		l = append(l, d.module())
	}
	return l
}

// P4.1, P4.3: a module is read of all ways to write it, and what is read is written the one way.
func TestP43RoundTrip(t *testing.T) {
	for _, m := range modules(300) {
		want := shortest().write(m)
		for _, f := range append(longer(), shortest()) {
			b := f.write(m)
			decodes(t, "a module's bytes", b, m)
			back, _ := wasm.Decode(b)
			again, why := wasm.Encode(back)
			if why != api.OK || !bytes.Equal(again, want) {
				t.Fatalf("Encode of Decode of %x: %x %v, not %x", b, again, why, want)
			}
			third, fault := wasm.Decode(again)
			if fault != (api.Fault{}) || !wasm.Same(third, back) || !wasm.Same(back, m) {
				t.Fatalf("Decode of Encode of %v: %v %v", back, third, fault)
			}
		}
	}
}

// parts are the places where a module's sections end, and how many of them count so far by their byte.
func parts(b []byte) (ends []int) {
	for at := 8; at < len(b); {
		ends = append(ends, at)
		size, shift := 0, 0
		for at++; ; at++ {
			size |= int(b[at]&127) << shift
			shift += 7
			if b[at] < 128 {
				break
			}
		}
		at += 1 + size
	}
	return append(ends, len(b))
}

// P4.4: a section 0 more, at each place between sections, turns nothing.
func TestP44SectionZero(t *testing.T) {
	zeros := [][]byte{sec(0), sec(0, []byte{0}), sec(0, bytesOf("04 09 ff 00 61 73 6d")), sec(0, make([]byte, 200)), join(sec(0, []byte{1}), sec(0), bytesOf("00 80 80 80 80 00"))}
	for _, m := range modules(40) {
		b := shortest().write(m)
		for _, at := range parts(b) {
			for _, zero := range zeros {
				decodes(t, "a section 0 more", join(b[:at], zero, b[at:]), m)
			}
		}
	}
	// It turns no fault either, but its place.
	for _, broken := range [][]byte{mod(sec(1, u(0)), sec(1, u(0))), mod(sec(11, u(0)), sec(3, u(0))), mod(sec(2, u(0)), []byte{9})} {
		faults(t, "ahead of a fault", join(broken[:11], sec(0, []byte{7}), broken[11:]), map[bool]api.Errno{true: api.ErrFloat, false: api.ErrForm}[broken[11] == 9], 14)
	}
}

// P4.5: a beginning of a module's bytes lacks a byte, if it does not end where a section ends; else only bodies can be missing.
func TestP45Beginnings(t *testing.T) {
	for _, m := range modules(60) {
		for _, f := range []form{shortest(), {more: 3, any0: []byte{5, 0}, none: true}} {
			b := f.write(m)
			ends := parts(b)
			for at := range b {
				beginning(t, b, at, ends, m)
			}
		}
	}
}

// beginning holds Decode of b's first bytes.
func beginning(t *testing.T, b []byte, at int, ends []int, m api.Module) {
	t.Helper()
	ended, funcs, bodies := at == 8, false, false
	for i, end := range ends[1:] {
		if end <= at {
			funcs = funcs || b[ends[i]] == 3
			bodies = bodies || b[ends[i]] == 10
		}
		ended = ended || end == at
	}
	got, f := wasm.Decode(b[:at])
	switch {
	case !ended:
		faults(t, "a beginning within a section", b[:at], api.ErrEnd, at)
	case funcs && !bodies && len(m.Funcs) > 0:
		faults(t, "a beginning without bodies", b[:at], api.ErrForm, at)
	default:
		want, fault, _ := decode(b[:at])
		if f != (api.Fault{}) || fault != f || !equal(got, want) {
			t.Errorf("Decode of %x, which ends with a section: %v %v", b[:at], got, f)
		}
	}
}

// holds holds Decode of b against the document's words told once more.
func holds(t *testing.T, b []byte) (good bool) {
	t.Helper()
	m, f := wasm.Decode(b)
	want, fault, clear := decode(b)
	if clear && (f != fault || !equal(m, want)) {
		t.Errorf("Decode(%x): %v %v, not %v %v", b, m, f, want, fault)
	}
	return f == (api.Fault{})
}

// P4.1: each byte of some modules turned into each other byte, or, where the module is written in a long way, into some.
func TestP41EachByteTurned(t *testing.T) {
	t.Parallel()
	good, bad := 0, 0
	turn := func(b []byte, step int) {
		for at, old := range b {
			for c := 0; c < 256; c += step {
				b[at] = byte(c)
				if holds(t, b) {
					good++
				} else {
					bad++
				}
			}
			b[at] = old
		}
	}
	turn(shortest().write(rich()), 1)
	turn(form{more: 1, block: true, rows: true, any0: []byte{3}}.write(rich()), 11)
	for _, m := range modules(5)[2:] {
		turn(shortest().write(m), 3)
	}
	if good < 5000 || bad < 5000 {
		t.Error("the modules are too much alike:", good, "read,", bad, "refused")
	}
}

// P4.1: bytes that are left out, put in, doubled or changed with others.
func TestP41BytesMoved(t *testing.T) {
	t.Parallel()
	for _, m := range modules(30) {
		b := shortest().write(m)
		for at := range b {
			holds(t, b[:at])
			holds(t, join(b[:at], b[at+1:]))
			holds(t, join(b[:at+1], b[at:]))
			for _, c := range []byte{0, 1, 5, 0x0b, 0x40, 0x7f, 0x80, 0xff} {
				holds(t, join(b[:at], []byte{c}, b[at:]))
				holds(t, join(b, []byte{c}))
			}
			if at > 0 {
				b[at-1], b[at] = b[at], b[at-1]
				holds(t, b)
				b[at-1], b[at] = b[at], b[at-1]
			}
		}
	}
}

// P4.1: bodies of bytes that follow no order, all of which may begin an operator or be behind one.
func TestP41LooseBodies(t *testing.T) {
	often := bytesOf("00 01 02 02 02 03 03 04 04 04 05 05 0b 0b 0b 0b 0b 0b 0c 0d 0e 0f 10 1a 1b 20 28 29 3f 40 40 40 40 41 42 6a 7c 7e 7f 00 01 02 03")
	good := 0
	for seed := range 60000 {
		d := dice(seed)
		text := []byte{0}
		for range d.roll(14) {
			c := often[d.roll(len(often))]
			if d.roll(12) == 0 {
				c = byte(d.roll(256))
			}
			text = append(text, c)
		}
		if holds(t, mod(ahead(1), sec(10, u(1), body(text, []byte{0x0b})))) {
			good++
		}
	}
	if good < 1000 {
		t.Error("only", good, "bodies were read")
	}
}

// P4.1: deep and long bodies, about their limits.
func TestP41GreatBodies(t *testing.T) {
	t.Parallel()
	for seed := range 1500 {
		d := dice(seed)
		var text []byte
		depth, els := 0, []bool{false}
		for range 505 + d.roll(16) {
			switch n := d.roll(3); {
			case n == 0 && depth < 16+d.roll(40)/39:
				text = append(text, byte(2+d.roll(3)), 0x40)
				depth++
				els = append(els, text[len(text)-2] == 4)
			case n == 1 && els[depth]:
				text = append(text, 0x05, 0x01)
				els[depth] = false
			case n == 2 && depth > 0:
				text = append(text, 0x0b, 0x01)
				els = els[:depth]
				depth--
			default:
				text = append(text, 0x1a)
			}
		}
		text = append(text, bytes.Repeat([]byte{0x0b}, depth+1)...)
		holds(t, mod(ahead(1), sec(10, u(1), body([]byte{0}, text))))
	}
}

// R1: bytes of no order end, whatever they are.
func TestR1AnyBytes(t *testing.T) {
	for seed := range 20000 {
		d := dice(seed)
		b := head()
		for range d.roll(40) {
			b = append(b, byte(d.roll(256)>>d.roll(8)))
		}
		holds(t, b)
		holds(t, b[8:])
	}
}
