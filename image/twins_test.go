package image_test

import (
	"bytes"
	"slices"
	"testing"

	"matryoshka/crc"
)

// twins are two unlike pieces of sixteen bytes, each of which turns the fingerprint h, as it is inside, into the same.
// Their low bytes are moved by numbers whose differences, multiplied as 1.2 tells, add up to 0 modulo 2^64.
func twins(h uint64, offset int) (a, b []byte, after uint64, ok bool) {
	x, y := h, h
	for _, difference := range [16]int{-5, 0, 2, -8, 3, 0, 7, 7, 2, -2, -8, -4, -5, -1, 6, 2} {
		lowX, lowY := int(byte(x)), int(byte(y))
		d := difference + lowY - lowX
		newX := max(0, -d) + offset
		newY := newX + d
		if newX > 255 || newY < 0 || newY > 255 {
			return nil, nil, 0, false
		}
		a, b = append(a, byte(lowX^newX)), append(b, byte(lowY^newY))
		x = (x + uint64(newX-lowX)) * 0x100000001b3
		y = (y + uint64(newY-lowY)) * 0x100000001b3
	}
	return a, b, x, x == y
}

// doubles are two unlike clusters of 64 sectors that have one fingerprint and one checksum. They consist of 33 pieces,
// each of which may be exchanged for its twin; for some of them together the checksum stays, since it has 32 bits.
func doubles(t *testing.T) (a, b []byte) {
	t.Helper()
	var others [][]byte
	h := uint64(0xcbf29ce484222325)
	for offset := 0; len(others) < 33; offset = (offset + 1) % 100 {
		if x, y, after, ok := twins(h, offset); ok {
			a, others, h = append(a, x...), append(others, y), after
		}
	}
	a = append(a, noise(1024-len(a), 1)...)
	exchanged := func(pieces uint64) []byte {
		x := slices.Clone(a)
		for n, other := range others {
			if pieces>>n&1 == 1 {
				copy(x[n*16:], other)
			}
		}
		return x
	}
	// For the highest bit of a change of the checksum: that change, and the pieces that make it.
	var changes [32]uint32
	var makers [32]uint64
pieces:
	for n := range others {
		pieces := uint64(1) << n
		change := crc.Sum(exchanged(pieces)) ^ crc.Sum(a)
		for bit := 31; bit >= 0; bit-- {
			if change>>bit&1 == 0 {
				continue
			}
			if makers[bit] == 0 {
				changes[bit], makers[bit] = change, pieces
				continue pieces
			}
			change, pieces = change^changes[bit], pieces^makers[bit]
		}
		return a, exchanged(pieces)
	}
	t.Fatal("no doubles")
	return nil, nil
}

// 17.3: contents are compared, since neither the fingerprint nor the checksum tells that they are equal.
func TestPutOfDoubles(t *testing.T) {
	a, b := doubles(t)
	want(t, "the fingerprints", crc.Finger(a), crc.Finger(b))
	want(t, "the checksums", crc.Sum(a), crc.Sum(b))
	want(t, "whether they are equal", bytes.Equal(a, b), false)
	_, i := created(t, 6, 256)
	must(t, "Put", i.Put(0, a), i.Put(1, b), i.Put(2, a), i.Put(3, b))
	for k, x := range [][]byte{a, b, a, b} {
		checkOwn(t, "a double", i, "", k, x, entryAt(i, k).Kind, 0)
	}
	want(t, "where they start", starts(i, 4), []int{4, 68, 4, 68})
}
