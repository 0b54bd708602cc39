package index

import (
	"bytes"
	"fmt"
	"hash/crc32"
	"math"
	"math/rand"
	"slices"
	"testing"

	"matryoshka/api"
)

// 11.1
func TestAddOfBytes(t *testing.T) {
	x := New()
	all := [][]byte{nil, {0}, {0, 0}, {1}, {0xff}, []byte("some"), make([]byte, 16), bytes.Repeat([]byte("long"), 1<<18)}
	for i, b := range all {
		x.Add(b, at(i))
		want(t, "Len", x.Len(), i+1)
	}
	for i, b := range all {
		want(t, fmt.Sprintf("%d bytes", len(b)), x.Find(b), ats(i))
	}
	x.Add([]byte{}, at(0))
	want(t, "empty bytes for nil ones", fmt.Sprint(x.Len(), x.Find([]byte{})), fmt.Sprint(len(all), ats(0)))
}

// 11.1: nothing changes if the pair is there, wherever it is, and whether or not the index is full.
func TestAddOfAKnownPair(t *testing.T) {
	for n := 1; n <= api.MaxIndex; n++ {
		x := filled(t, n)
		all := [][]byte{contents(0), contents(1), contents(n / 2), contents(n - 2), contents(n - 1)}
		before := state(x, all...)
		for _, i := range []int{0, n / 2, n - 1, n - 1, 0} {
			x.Add(contents(i), at(i))
			want(t, fmt.Sprintf("pair %d of %d", i, n), kept(t, x, 0, n), numbers(0, n))
			want(t, fmt.Sprintf("pair %d of %d", i, n), state(x, all...), before)
		}
	}
}

// 11.1: a pair that is there stays where it was, so that it goes no later.
func TestAddOfAKnownPairMovesNothing(t *testing.T) {
	x := filled(t, api.MaxIndex)
	x.Add(contents(0), at(0))
	x.Add(contents(1), at(1))
	for i := range 3 {
		x.Add(contents(100+i), at(100+i))
		want(t, "the first ones", kept(t, x, 0, 64), numbers(i+1, 64))
	}
}

// 11.1
func TestAddOfHalfAKnownPair(t *testing.T) {
	x := New()
	x.Add(contents(0), at(2))
	x.Add(contents(0), at(3))
	x.Add(contents(1), at(2))
	x.Add(contents(1), at(3))
	for range 2 {
		want(t, "Len", x.Len(), 4)
		want(t, "Find", fmt.Sprint(x.Find(contents(0)), x.Find(contents(1))), fmt.Sprint(ats(2, 3), ats(2, 3)))
		x.Add(contents(1), at(3))
		x.Add(contents(0), at(2))
		x.Add(contents(1), at(2))
		x.Add(contents(0), at(3))
	}
}

// farNumbers are numbers at the edges, some of which have the same low bits.
var farNumbers = []int{math.MinInt, math.MinInt + 1, -1 << 32, -256, -1, 0, 1, 255, 256, 1 << 16, 1 << 31, 1<<31 - 1, 1 << 32, 1<<32 + 1, math.MaxInt - 1, math.MaxInt}

// neighbours are entries of all kinds, valid or not, that differ from each other in one field alone or in more.
func neighbours() []api.Entry {
	all := []api.Entry{
		{}, {Kind: api.EntryZero}, {Kind: 4}, {Kind: -1}, {Sum: 1}, {Start: 1}, {Count: 1}, {Size: 1},
		{Kind: api.EntryRaw, Start: 2, Count: 1},
		{Kind: api.EntryPacked, Start: 2, Count: 1},
		{Kind: api.EntryPacked, Start: 2, Count: 1, Size: 9},
		{Kind: api.EntryRaw, Start: 1, Count: 2},
	}
	for _, n := range farNumbers {
		e := api.Entry{Kind: 3, Start: 3, Count: 3, Size: 3, Sum: 3}
		kind, start, count, size := e, e, e, e
		kind.Kind, start.Start, count.Count, size.Size = n, n, n, n
		all = append(all, kind, start, count, size)
	}
	for _, sum := range []uint32{0, 2, 3, 4, 3 + 1<<8, 3 + 1<<16, 3 + 1<<24, 1 << 31, math.MaxUint32} {
		all = append(all, api.Entry{Kind: 3, Start: 3, Count: 3, Size: 3, Sum: sum})
	}
	return all
}

// 11.1: pairs differ if their entries differ in any field, and entries need not be valid.
func TestAddOfEntriesThatDiffer(t *testing.T) {
	all := neighbours()
	for i, e := range all {
		for _, f := range all[i+1:] {
			x := New()
			x.Add(contents(0), e)
			x.Add(contents(0), f)
			x.Add(contents(0), e)
			want(t, "Find", x.Find(contents(0)), []api.Entry{e, f})
			want(t, "Forget", x.Forget(e), true)
			want(t, "what is left", x.Find(contents(0)), []api.Entry{f})
		}
	}
	x := New()
	for _, e := range all[:api.MaxIndex] {
		x.Add(nil, e)
	}
	want(t, "all of them", x.Find(nil), all[:api.MaxIndex])
}

// alike are unlike bytes of which a part of 32 bits is the same.
func alike(part func(b []byte) uint32) ([]byte, []byte) {
	random := rand.New(rand.NewSource(1))
	seen := map[uint32][]byte{}
	for {
		b := make([]byte, 16)
		random.Read(b)
		if other, ok := seen[part(b)]; ok {
			return other, b
		}
		seen[part(b)] = b
	}
}

// 11.1 and 11.2: all of the fingerprint counts.
func TestFingerprintsThatDiffer(t *testing.T) {
	for what, part := range map[string]func(b []byte) uint32{
		"the low half":  func(b []byte) uint32 { return uint32(fingerOf(b)) },
		"the high half": func(b []byte) uint32 { return uint32(fingerOf(b) >> 32) },
		"the checksum": func(b []byte) uint32 {
			return crc32.Checksum(b, crc32.MakeTable(crc32.Castagnoli))
		},
	} {
		b, c := alike(part)
		x := New()
		x.Add(b, at(2))
		want(t, what+": Find", x.Find(c), nil)
		x.Add(c, at(2))
		want(t, what+": Len", x.Len(), 2)
		x.Add(c, at(3))
		want(t, what+": Find", fmt.Sprint(x.Find(b), x.Find(c)), fmt.Sprint(ats(2), ats(2, 3)))
	}
}

// 11.1: unlike bytes of one fingerprint make one pair.
func TestAddOfTwins(t *testing.T) {
	x := New()
	for n := range 4 {
		x.Add(twins(n), at(2))
		want(t, "Len", x.Len(), 1)
	}
	x.Add(twins(3), at(3))
	x.Add(twins(0), at(3))
	x.Add(twins(1)[:7], at(4))
	for n := range 5 {
		want(t, "Find", x.Find(twins(n)), ats(2, 3))
	}
}

// 11.1: beyond MaxIndex pairs, the first one goes for each that is added.
func TestAddToAFullIndex(t *testing.T) {
	const most = 5*api.MaxIndex + 3
	x := New()
	for i := range most {
		x.Add(contents(i), at(i))
		first := max(0, i+1-64)
		want(t, fmt.Sprint(i+1, " pairs: Len"), x.Len(), min(i+1, 64))
		want(t, fmt.Sprint(i+1, " pairs: found"), kept(t, x, 0, most), numbers(first, i+1))
		want(t, fmt.Sprint(i+1, " pairs: the one that went"), x.Find(contents(first-1)), nil)
	}
	for i := range most {
		want(t, fmt.Sprint("Forget of ", i), x.Forget(at(i)), i >= most-64)
	}
	want(t, "Len", x.Len(), 0)
}

// 11.1: only the first pair goes, not another one of its entry, nor another one of its fingerprint.
func TestOnlyTheFirstPairGoes(t *testing.T) {
	x := New()
	x.Add(contents(0), at(2))
	x.Add(contents(0), at(3))
	x.Add(contents(1), at(2))
	for i := range api.MaxIndex - 3 {
		x.Add(contents(100+i), at(100+i))
	}
	x.Add(contents(200), at(200))
	want(t, "the first", fmt.Sprint(x.Len(), x.Find(contents(0)), x.Find(contents(1))), fmt.Sprint(64, ats(3), ats(2)))
	x.Add(contents(201), at(201))
	want(t, "the second", fmt.Sprint(x.Len(), x.Find(contents(0)), x.Find(contents(1))), fmt.Sprint(64, ats(), ats(2)))
	x.Add(contents(202), at(202))
	want(t, "the third", fmt.Sprint(x.Len(), x.Find(contents(0)), x.Find(contents(1))), fmt.Sprint(64, ats(), ats()))
	want(t, "its entry", x.Forget(at(2)), false)
}

// 11.1: a pair that went, or was forgotten, is added afresh at the end.
func TestAddOfAPairThatWent(t *testing.T) {
	x := filled(t, api.MaxIndex+1)
	x.Add(contents(0), at(0))
	want(t, "back", kept(t, x, 0, 65), append([]int{0}, numbers(2, 65)...))
	for i := range 62 {
		x.Add(contents(100+i), at(100+i))
	}
	want(t, "two are left", kept(t, x, 0, 65), []int{0, 64})
	x.Add(contents(300), at(300))
	want(t, "the last one", kept(t, x, 0, 65), []int{0})
	x.Add(contents(301), at(301))
	want(t, "none", kept(t, x, 0, 65), nil)

	x = New()
	for _, start := range []int{2, 3, 4} {
		x.Add(contents(0), at(start))
	}
	x.Forget(at(2))
	x.Add(contents(0), at(2))
	want(t, "behind Forget", x.Find(contents(0)), ats(3, 4, 2))
}

// 11.1: an index that was full has room again behind Forget.
func TestAddBehindForget(t *testing.T) {
	for _, gone := range [][]int{{0}, {63}, {31}, {0, 1, 2}, {5, 60, 63}} {
		x := filled(t, api.MaxIndex)
		for _, i := range gone {
			want(t, "Forget", x.Forget(at(i)), true)
		}
		left := slices.DeleteFunc(numbers(0, 64), func(i int) bool { return slices.Contains(gone, i) })
		for n := range gone {
			x.Add(contents(100+n), at(100+n))
			left = append(left, 100+n)
			want(t, fmt.Sprint("room of ", gone), kept(t, x, 0, 200), left)
		}
		x.Add(contents(199), at(199))
		want(t, fmt.Sprint("full again behind ", gone), kept(t, x, 0, 200), append(left[1:], 199))
	}
}
