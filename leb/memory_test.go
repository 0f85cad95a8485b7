package leb_test

import (
	"bytes"
	"testing"

	"bellcrank/api"
	"bellcrank/leb"
)

// puts are both ways to put a number that needs some groups.
func puts() []func(b []byte) []byte {
	return []func(b []byte) []byte{
		func(b []byte) []byte { return leb.PutU(b, 0) },
		func(b []byte) []byte { return leb.PutU(b, 1<<64-1) },
		func(b []byte) []byte { return leb.PutS(b, -1) },
		func(b []byte) []byte { return leb.PutS(b, -1<<63) },
	}
}

// overwrite turns all bytes that b can reach, those past its end too.
func overwrite(b []byte) {
	b = b[:cap(b)]
	for i := range b {
		b[i] ^= 0xff
	}
}

// R4: a list with room behind it stays as it is, past its end too.
func TestPutLeavesRoomAlone(t *testing.T) {
	for i, put := range puts() {
		whole := bytes.Repeat([]byte{77}, 40)
		for count := range 20 {
			put(whole[:count])
			put(whole[:count:30])
		}
		if !bytes.Equal(whole, bytes.Repeat([]byte{77}, 40)) {
			t.Errorf("put %d wrote into what it was handed: %v", i, whole)
		}
	}
}

// R4: what was handed in may be written over, and the answer stays.
func TestAnswerOutlivesArgument(t *testing.T) {
	for i, put := range puts() {
		for count := range 20 {
			in := make([]byte, count, 40)
			b := put(in)
			want := bytes.Clone(b)
			overwrite(in)
			if !bytes.Equal(b, want) {
				t.Errorf("put %d behind %d bytes: the answer turned with its argument: %v, was %v", i, count, b, want)
			}
		}
	}
}

// R4: an answer may be written over, and neither the argument nor another answer turns.
func TestAnswersAreApart(t *testing.T) {
	for i, put := range puts() {
		for count := range 20 {
			in := make([]byte, count, 40)
			first := put(in)
			want := bytes.Clone(first)
			second := put(in)
			overwrite(first)
			if !bytes.Equal(second, want) {
				t.Errorf("put %d behind %d bytes: an answer turned with another one: %v, was %v", i, count, second, want)
			}
			if third := put(in); !bytes.Equal(third, want) {
				t.Errorf("put %d behind %d bytes: %v behind an answer that was written over, was %v", i, count, third, want)
			}
			if !bytes.Equal(in[:cap(in)], make([]byte, 40)) {
				t.Errorf("put %d behind %d bytes: the argument turned with the answer", i, count)
			}
		}
	}
}

// R4: numbers that go behind one answer do not meet.
func TestPutTwiceBehindOneAnswer(t *testing.T) {
	for i, put := range puts() {
		start := put([]byte{1, 2, 3})
		a := leb.PutU(start, 11)
		b := leb.PutS(start, 22)
		if a[len(a)-1] != 11 || b[len(b)-1] != 22 {
			t.Errorf("put %d: two numbers behind one answer: %v and %v", i, a, b)
		}
	}
}

// R4, R3: a reading writes nothing, keeps nothing, and hangs on the bytes alone.
func TestReadKeepsNothing(t *testing.T) {
	whole := []byte{229, 142, 38, 192, 187, 120, 255, 255, 255, 255, 255, 255}
	want := bytes.Clone(whole)
	b := whole[:8]
	for range 2 {
		for at := range len(b) + 1 {
			readsAll(t, b, at)
		}
		if !bytes.Equal(whole, want) {
			t.Fatal("a reading turned the bytes:", whole)
		}
	}
	if n, next, f := leb.U(b, 6, 32); n != 0 || next != 0 || f != (api.Fault{Why: api.ErrEnd, At: 8}) {
		t.Error("a reading saw bytes past the end:", n, next, f)
	}
	copy(whole, []byte{1, 2, 3})
	if n, next, f := leb.U(b, 0, 32); n != 1 || next != 1 || f != (api.Fault{}) {
		t.Error("a reading kept bytes that were written over:", n, next, f)
	}
}

// R6: no list and an empty one are the same.
func TestNoListIsAnEmptyOne(t *testing.T) {
	for i, put := range puts() {
		if a, b := put(nil), put([]byte{}); !bytes.Equal(a, b) {
			t.Errorf("put %d: %v behind no list, %v behind an empty one", i, a, b)
		}
	}
	for _, at := range []int{-1, 0, 1} {
		readsAll(t, nil, at)
		readsAll(t, []byte{}, at)
	}
}
