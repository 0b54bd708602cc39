package index

import (
	"bytes"
	"fmt"
	"testing"

	"matryoshka/api"
)

var mark = api.Entry{Kind: 77, Start: 77, Count: 77, Size: 77, Sum: 77}

// roomy is bytes like b with spare capacity, in which there are marks.
func roomy(b []byte) []byte {
	room := append(bytes.Clone(b), bytes.Repeat([]byte{'#'}, 40)...)
	return room[:len(b)]
}

// scribble writes over all that the memory of a list holds, and appends to it.
func scribble[T any](l []T, mark T) {
	for i := range l[:cap(l)] {
		l[:cap(l)][i] = mark
	}
	_ = append(l, mark, mark)
	_ = append(l[:0], mark)
}

// R3: bytes are not changed, nor is their spare capacity.
func TestBytesAreNotChanged(t *testing.T) {
	for _, text := range [][]byte{nil, []byte("b"), make([]byte, 16), contents(3), twins(9)} {
		for _, n := range []int{0, 1, 63, 64} {
			x := filled(t, n)
			b := roomy(text)
			before := string(b[:cap(b)])
			for range 2 {
				x.Find(b)
				x.Add(b, at(1000))
				x.Add(b, at(1001))
			}
			x.Forget(at(1000))
			want(t, "the bytes", string(b[:cap(b)]), before)
		}
	}
}

// R3: what is written into bytes later changes nothing.
func TestBytesAreNotKept(t *testing.T) {
	for _, text := range [][]byte{[]byte("b"), make([]byte, 16), contents(3), twins(9)} {
		x := New()
		b := roomy(text)
		x.Add(b, at(2))
		x.Find(b)
		early := x.Copy()
		scribble(b, '?')
		for _, x := range []*Index{x, early, x.Copy()} {
			want(t, "what was added", x.Find(text), ats(2))
			want(t, "what is there now", x.Find(b), nil)
			x.Add(text, at(2))
			want(t, "Len", x.Len(), 1)
		}
	}
}

// R3: one memory that has one contents after the other.
func TestOneArrayOfManyContents(t *testing.T) {
	x := New()
	room := make([]byte, 50)
	for i := range room {
		for k := range room {
			room[k] = byte(i * k)
		}
		x.Add(room[:i], at(i))
	}
	clear(room)
	for i := range room {
		b := make([]byte, i)
		for k := range b {
			b[k] = byte(i * k)
		}
		want(t, fmt.Sprint(i, " bytes"), x.Find(b), ats(i))
	}
}

// R3: writing into a result changes neither the index, nor a copy, nor another result.
func TestResultsAreNewMemory(t *testing.T) {
	for n := 1; n <= api.MaxIndex; n++ {
		x := New()
		var wanted []api.Entry
		for i := range n {
			x.Add([]byte("one"), at(i))
			wanted = append(wanted, at(i))
		}
		all := [][]byte{[]byte("one"), contents(0)}
		before := state(x, all...)
		early := x.Copy()
		first, second := x.Find([]byte("one")), x.Find([]byte("one"))
		ofCopy := early.Find([]byte("one"))
		scribble(first, mark)
		want(t, "another result", second, wanted)
		want(t, "that of a copy", ofCopy, wanted)
		for _, x := range []*Index{x, early, x.Copy()} {
			want(t, "the state", state(x, all...), before)
			want(t, "a mark", x.Forget(mark), false)
		}
		scribble(ofCopy, mark)
		want(t, "another result", second, wanted)
		want(t, "the state", state(early, all...), before)
	}
}

// R3: what is done to the index later changes no result.
func TestResultsAreNotTurned(t *testing.T) {
	x := New()
	for i := range 10 {
		x.Add([]byte("one"), at(i))
	}
	result := x.Find([]byte("one"))
	for i := range 5 {
		x.Forget(at(2 * i))
	}
	for i := range 200 {
		x.Add([]byte("one"), at(100+i))
	}
	want(t, "the result", result, ats(0, 1, 2, 3, 4, 5, 6, 7, 8, 9))
}

// R3: nil and empty bytes are equivalent.
func TestNilAndEmptyAreEquivalent(t *testing.T) {
	x, y := New(), New()
	x.Add(nil, at(2))
	x.Add([]byte{}, at(3))
	y.Add([]byte{}, at(2))
	y.Add(contents(0)[:0], at(3))
	want(t, "the state", state(x, nil, []byte{}), state(y, []byte{}, nil))
	want(t, "Find", fmt.Sprint(x.Find([]byte{}), y.Find(nil)), fmt.Sprint(ats(2, 3), ats(2, 3)))
}

// R4: with false, nothing has changed; without a pair, the list is empty.
func TestNothingFound(t *testing.T) {
	x := filled(t, api.MaxIndex)
	all := [][]byte{contents(0), contents(1), contents(63)}
	before := state(x, all...)
	for range 3 {
		want(t, "Find", len(x.Find([]byte("none"))), 0)
		want(t, "Forget", x.Forget(at(64)), false)
	}
	want(t, "the state", state(x, all...), before)
}
