package slot

import (
	"slices"
	"strings"
	"testing"

	"matryoshka/api"
)

func checkOrder(t *testing.T, a, b []byte, want ...api.Slot) {
	t.Helper()
	if got := Order(a, b); !slices.Equal(got, want) {
		t.Errorf("Order(%x, %x) = %+v, want %+v", a, b, got, want)
	}
}

func sized(seq, start, count int, sum uint32) api.Slot {
	return api.Slot{Seq: seq, Start: start, Count: count, Sum: sum}
}

// noSlots are bytes that Get decodes to no slot.
func noSlots() [][]byte {
	whole := encodingOf(sized(9, 9, 9, 9))
	return [][]byte{
		nil, {}, {0}, make([]byte, 16), make([]byte, 15), make([]byte, 17), make([]byte, 32),
		whole[:15], whole[1:], whole[:0], append(slices.Clone(whole), 0), append([]byte{0}, whole...), append(slices.Clone(whole), whole...),
		bytesOf(0, 2, 1, 0), bytesOf(1<<31+1, 2, 1, 0), bytesOf(1, 1, 1, 0), bytesOf(1, api.MaxFile+1, 1, 0),
		bytesOf(1, 2, 0, 0), bytesOf(1, 2, api.MaxBlob+1, 0), bytesOf(1<<32-1, 1<<32-1, 1<<32-1, 1<<32-1),
		[]byte(strings.Repeat("n", 1000)),
	}
}

// 6.3
func TestOrderOfTheExample(t *testing.T) {
	s := sized(5, 7, 3, 0xa1b2c3d4)
	checkOrder(t, make([]byte, 16), encodingOf(s), s)
	checkOrder(t, encodingOf(s), make([]byte, 16), s)
}

// 6.3
func TestOrderOfOneSlot(t *testing.T) {
	for _, s := range slots() {
		for _, none := range noSlots() {
			checkOrder(t, encodingOf(s), none, s)
			checkOrder(t, none, encodingOf(s), s)
		}
	}
}

// 6.3
func TestOrderOfNone(t *testing.T) {
	for _, a := range noSlots() {
		for _, b := range noSlots() {
			checkOrder(t, a, b)
		}
	}
}

// 6.3: the greater Seq is first, whatever else the slots are.
func TestOrderOfTwoSlots(t *testing.T) {
	seqs := []int{1, 2, 3, 255, 256, 257, 65535, 65536, 1<<24 - 1, 1 << 24, 1<<31 - 1, 1 << 31}
	for i, older := range seqs {
		for _, newer := range seqs[i+1:] {
			for _, rest := range []api.Slot{sized(0, 2, 1, 0), sized(0, 50, 50, 50), sized(0, api.MaxFile, api.MaxBlob, 1<<32-1)} {
				x, y := rest, sized(newer, 50, 50, 50)
				x.Seq = older
				checkOrder(t, encodingOf(x), encodingOf(y), y, x)
				checkOrder(t, encodingOf(y), encodingOf(x), y, x)
			}
		}
	}
}

// 6.3: of the same Seq, the slot from a is first, whatever else the slots are.
func TestOrderOfTheSameSeq(t *testing.T) {
	for _, seq := range []int{1, 2, 256, 1 << 31} {
		x := sized(seq, 50, 50, 50)
		for _, y := range []api.Slot{
			x, sized(seq, 49, 50, 50), sized(seq, 51, 50, 50), sized(seq, 50, 49, 50), sized(seq, 50, 51, 50),
			sized(seq, 50, 50, 49), sized(seq, 50, 50, 51), sized(seq, 2, 1, 0), sized(seq, api.MaxFile, api.MaxBlob, 1<<32-1),
		} {
			checkOrder(t, encodingOf(x), encodingOf(y), x, y)
			checkOrder(t, encodingOf(y), encodingOf(x), y, x)
		}
	}
}

// 6.3: a and b may be the same bytes.
func TestOrderOfOneSectorTwice(t *testing.T) {
	s := sized(4, 5, 6, 7)
	b := encodingOf(s)
	checkOrder(t, b, b, s, s)
	file := append(encodingOf(s), encodingOf(sized(5, 5, 6, 7))...)
	checkOrder(t, file[:16], file[16:], sized(5, 5, 6, 7), s)
}

// R3
func TestOrderIsNewMemory(t *testing.T) {
	x, y := sized(4, 5, 6, 7), sized(8, 9, 10, 11)
	a, b := encodingOf(x), encodingOf(y)
	first, second := Order(a, b), Order(a, b)
	one, other := Order(a, nil), Order(a, nil)
	scribble(a, '#')
	scribble(b, '#')
	scribble(first, api.Slot{})
	scribble(one, api.Slot{})
	_, _ = append(first, api.Slot{}), append(one, api.Slot{})
	if !slices.Equal(second, []api.Slot{y, x}) || !slices.Equal(other, []api.Slot{x}) {
		t.Errorf("%+v, %+v", second, other)
	}
	checkOrder(t, encodingOf(x), encodingOf(y), y, x)
}
