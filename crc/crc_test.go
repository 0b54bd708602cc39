package crc

import (
	"bytes"
	"hash/crc32"
	"hash/fnv"
	"math/rand"
	"slices"
	"strings"
	"sync"
	"testing"
)

// sumByBits goes the way of the chapter's words, bit by bit, from a register on.
func sumByBits(register uint32, b []byte) uint32 {
	for _, c := range b {
		register ^= uint32(c)
		for range 8 {
			if register&1 == 1 {
				register = register>>1 ^ 0x82f63b78
			} else {
				register >>= 1
			}
		}
	}
	return ^register
}

// fingerByBytes multiplies by shifts and additions: 0x100000001b3 is 2^40 + 2^8 + 0xb3.
func fingerByBytes(b []byte) uint64 {
	h := uint64(0xcbf29ce484222325)
	for _, c := range b {
		h = h&^0xff | uint64(byte(h)^c)
		h = h<<40 + h<<8 + h*0xb3
	}
	return h ^ h>>32
}

func random(seed int64, n int) []byte {
	b := make([]byte, n)
	rand.New(rand.NewSource(seed)).Read(b)
	return b
}

// samples are byte strings of many lengths and kinds.
func samples() [][]byte {
	all := [][]byte{nil, {}, []byte("123456789"), []byte("a"), random(7, 100_000)}
	for c := range 256 {
		all = append(all, []byte{byte(c)})
	}
	for n := range 70 {
		all = append(all, make([]byte, n), bytes.Repeat([]byte{0xff}, n), random(int64(n), n))
	}
	return all
}

// 1.1
func TestSumOfKnownBytes(t *testing.T) {
	ascending, descending := make([]byte, 32), make([]byte, 32)
	for i := range 32 {
		ascending[i], descending[i] = byte(i), byte(31-i)
	}
	for _, c := range []struct {
		b    []byte
		want uint32
	}{
		{nil, 0},
		{[]byte{}, 0},
		{[]byte("123456789"), 0xe3069283},
		{[]byte("a"), 0xc1d04330},
		{[]byte{0}, 0x527d5351},
		{[]byte{0xff}, 0xff000000},
		{make([]byte, 32), 0x8a9136aa},
		{bytes.Repeat([]byte{0xff}, 4), 0xffffffff},
		{bytes.Repeat([]byte{0xff}, 32), 0x62a8ab43},
		{ascending, 0x46dd794e},
		{descending, 0x113fdb5c},
	} {
		if got := Sum(c.b); got != c.want {
			t.Errorf("Sum(%x) = %#x, want %#x", c.b, got, c.want)
		}
	}
}

// 1.1
func TestSumAgainstTheText(t *testing.T) {
	castagnoli := crc32.MakeTable(crc32.Castagnoli)
	for _, b := range samples() {
		got := Sum(b)
		if want := sumByBits(0xffffffff, b); got != want {
			t.Errorf("Sum of %d bytes = %#x, the text %#x", len(b), got, want)
		}
		if want := crc32.Checksum(b, castagnoli); got != want {
			t.Errorf("Sum of %d bytes = %#x, the library %#x", len(b), got, want)
		}
	}
}

// 1.1
func TestMoreFromAnySum(t *testing.T) {
	sums := []uint32{0, 1, 0x80000000, 0x7fffffff, 0xfffffffe, 0xffffffff, 0x82f63b78, 0x12345678, 0xdeadbeef}
	for bit := range 32 {
		sums = append(sums, 1<<bit, ^uint32(1<<bit))
	}
	for _, sum := range sums {
		if got := More(sum, nil); got != sum {
			t.Errorf("More(%#x, nil) = %#x", sum, got)
		}
		for _, b := range samples() {
			if got, want := More(sum, b), sumByBits(^sum, b); got != want {
				t.Errorf("More(%#x, %d bytes) = %#x, want %#x", sum, len(b), got, want)
			}
		}
	}
}

const oneByte = 0xcbf29ce484222300 * 0x100000001b3 % (1 << 64)

// 1.2
func TestFingerOfKnownBytes(t *testing.T) {
	for _, c := range []struct {
		s    string
		want uint64
	}{
		{"", 0xcbf29ce44fd0bfc1},
		{"a", 0xaf63dc4c8601ec8c ^ 0xaf63dc4c},
		{"foobar", 0x85944171f73967e8 ^ 0x85944171},
		// 0x25 turns the low byte of the first h into 0; the product is worked out by the constants' unbounded numbers.
		{"\x25", oneByte ^ oneByte>>32},
	} {
		if got := Finger([]byte(c.s)); got != c.want {
			t.Errorf("Finger(%q) = %#x, want %#x", c.s, got, c.want)
		}
	}
}

// 1.2
func TestFingerAgainstTheText(t *testing.T) {
	for _, b := range samples() {
		got := Finger(b)
		if want := fingerByBytes(b); got != want {
			t.Errorf("Finger of %d bytes = %#x, the text %#x", len(b), got, want)
		}
		whole := fnv.New64a()
		whole.Write(b)
		if want := whole.Sum64() ^ whole.Sum64()>>32; got != want {
			t.Errorf("Finger of %d bytes = %#x, the library %#x", len(b), got, want)
		}
	}
}

// 1.3
func TestMoreWhereverBytesAreParted(t *testing.T) {
	for _, b := range samples() {
		if len(b) > 100 {
			continue
		}
		want := Sum(b)
		for first := range len(b) + 1 {
			for second := first; second <= len(b); second++ {
				got := More(More(Sum(b[:first]), b[first:second]), b[second:])
				if got != want {
					t.Fatalf("%x parted at %d and %d: %#x, want %#x", b, first, second, got, want)
				}
			}
		}
	}
}

// invert turns the bits of a copy of b that mask names, counted from the bit at on.
func invert(b []byte, at int, mask uint32) []byte {
	c := slices.Clone(b)
	for k := range 32 {
		if mask>>k&1 == 1 {
			c[(at+k)/8] ^= 1 << ((at + k) % 8)
		}
	}
	return c
}

// 1.3
func TestInvertedBitsChangeTheSum(t *testing.T) {
	r := rand.New(rand.NewSource(3))
	masks := []uint32{1, 3, 0x80000000, 0x80000001, 0xffffffff, 0x82f63b78, 0x1edc6f41, 0x05ec76f1}
	for range 100 {
		masks = append(masks, r.Uint32()|1)
	}
	for _, b := range [][]byte{make([]byte, 4), bytes.Repeat([]byte{0xff}, 9), random(1, 40), random(2, 65)} {
		sum := Sum(b)
		for at := range len(b)*8 - 31 {
			for _, mask := range masks {
				if c := invert(b, at, mask); Sum(c) == sum {
					t.Fatalf("%x and %x have one sum", b, c)
				}
			}
		}
	}
}

// 1.3
func TestOneDifferingByteChangesTheFinger(t *testing.T) {
	for _, b := range [][]byte{{0}, []byte("abc"), make([]byte, 33), bytes.Repeat([]byte{0xff}, 16), random(5, 64)} {
		finger := Finger(b)
		for at := range b {
			for by := 1; by < 256; by++ {
				c := slices.Clone(b)
				c[at] ^= byte(by)
				if Finger(c) == finger {
					t.Fatalf("%x and %x have one finger", b, c)
				}
			}
		}
	}
}

// R3
func TestNothingIsChanged(t *testing.T) {
	for _, b := range samples() {
		// What lies behind the length is the caller's too.
		room := append(slices.Clone(b), "behind"...)
		given, before := room[:len(b)], slices.Clone(room)
		Sum(given)
		More(0x12345678, given)
		Finger(given)
		if !bytes.Equal(room, before) {
			t.Fatalf("%d bytes were changed", len(b))
		}
	}
}

// R3
func TestNilAndEmptyAreEquivalent(t *testing.T) {
	if Sum(nil) != Sum([]byte{}) || Finger(nil) != Finger([]byte{}) {
		t.Error("Sum or Finger tells nil from empty")
	}
	for _, sum := range []uint32{0, 1, 0xffffffff, 0xe3069283} {
		if More(sum, nil) != sum || More(sum, []byte{}) != sum {
			t.Errorf("More(%#x) of nothing is another sum", sum)
		}
	}
}

// R1 and R5: the same calls have the same results, whatever runs beside them.
func TestCallsShareNothing(t *testing.T) {
	b := []byte(strings.Repeat("matryoshka", 50))
	sum, finger := Sum(b), Finger(b)
	var all sync.WaitGroup
	for range 8 {
		all.Go(func() {
			for range 50 {
				if Sum(b) != sum || Finger(b) != finger {
					t.Error("another result")
				}
			}
		})
	}
	all.Wait()
}
