package check

import (
	"bytes"
	"fmt"
	"math"
	"math/rand"
	"slices"
	"testing"

	"matryoshka/api"
	"matryoshka/crc"
	"matryoshka/lz"
)

// checkBytes is that Bytes returns the contents that are wanted.
func checkBytes(t *testing.T, what string, e api.Entry, file []byte, cluster int, wanted []byte) {
	t.Helper()
	if b, errno := Bytes(e, file, cluster); errno != api.OK || !bytes.Equal(b, wanted) || len(b) != 16<<cluster {
		t.Fatalf("%s: %+v in %d bytes, cluster %d: %d, %x, want %x", what, e, len(file), cluster, errno, b, wanted)
	}
}

// checkRefused is that Bytes returns this error, and nothing beside it.
func checkRefused(t *testing.T, what string, e api.Entry, file []byte, cluster int, wanted api.Errno) {
	t.Helper()
	if b, errno := Bytes(e, file, cluster); errno != wanted || b != nil {
		t.Fatalf("%s: %+v in %d bytes, cluster %d: %d, %x, want %d", what, e, len(file), cluster, errno, b, wanted)
	}
}

// 15.1: what has no sectors is noughts, whatever the file is.
func TestBytesOfNoneAndZero(t *testing.T) {
	for cluster := range 7 {
		for _, file := range [][]byte{nil, {}, {1}, fileOf(1), fileOf(100)} {
			checkBytes(t, "EntryNone", api.Entry{}, file, cluster, make([]byte, 16<<cluster))
			checkBytes(t, "EntryZero", zero, file, cluster, make([]byte, 16<<cluster))
		}
	}
}

// 15.1
func TestBytesOfRaw(t *testing.T) {
	file := fileOf(140)
	for cluster := range 7 {
		for start := 2; start+1<<cluster <= 140; start++ {
			contents := file[start*16 : (start+1<<cluster)*16]
			checkBytes(t, "EntryRaw", raw(file, start, 1<<cluster), file, cluster, contents)
		}
	}
}

// 15.1: the greatest numbers that an entry may have.
func TestBytesAtTheEndOfTheGreatestFile(t *testing.T) {
	file := fileOf(65536)
	for cluster := range 7 {
		start := 65536 - 1<<cluster
		checkBytes(t, "EntryRaw", raw(file, start, 1<<cluster), file, cluster, file[start*16:])
		checkRefused(t, "EntryRaw", raw(file, start, 1<<cluster), file[:len(file)-1], cluster, api.ErrRange)
		beyond := append(fileOf(65536), fileOf(100)...)
		checkBytes(t, "EntryRaw ahead of more", raw(file, start, 1<<cluster), beyond, cluster, file[start*16:])
		checkRefused(t, "EntryRaw beyond", raw(beyond, start+1, 1<<cluster), beyond, cluster, api.ErrArg)
		checkRefused(t, "EntryRaw behind", raw(beyond, 65536, 1<<cluster), beyond, cluster, api.ErrArg)
	}
}

// 15.1: what Size tells counts, whatever stands behind it.
func TestBytesOfPacked(t *testing.T) {
	random := rand.New(rand.NewSource(1))
	for cluster := 1; cluster < 7; cluster++ {
		for n := range 200 {
			contents := bytes.Repeat([]byte{byte(n)}, 16<<cluster)
			random.Read(contents[:random.Intn(8<<cluster)])
			data := lz.Pack(contents)
			if len(data) > 16<<cluster-16 {
				continue
			}
			file := fileOf(2 + 1<<cluster + 20)
			checkBytes(t, "EntryPacked", packed(file, 2+n%20, data, contents), file, cluster, contents)
		}
	}
}

// 15.1: data of every length, among them those that fill their sectors just so, with any bytes behind them.
func TestBytesOfPackedOfAnySize(t *testing.T) {
	for cluster := 1; cluster < 7; cluster++ {
		size := 16 << cluster
		contents := bytes.Repeat([]byte{7}, size)
		for literals := 1; literals <= size-4; literals++ {
			data := repeated(7, size, literals)
			if len(data) > size-16 {
				break
			}
			for _, tail := range []byte{0, 1, 255} {
				file := bytes.Repeat([]byte{tail}, 80*16)
				e := packed(file, 5, data, contents)
				checkBytes(t, "EntryPacked", e, file, cluster, contents)
				checkBytes(t, "at the end", e, file[:(5+e.Count)*16], cluster, contents)
				checkRefused(t, "a byte beyond the end", e, file[:(5+e.Count)*16-1], cluster, api.ErrRange)
			}
		}
	}
}

// notValid are entries that are not valid for clusters of 4 sectors.
func notValid(file []byte) []api.Entry {
	l := []api.Entry{
		{Kind: 4}, {Kind: -1}, {Sum: 1}, {Start: 2}, {Count: 1}, {Size: 1}, {Kind: 1, Sum: 1}, {Kind: 1, Start: 2}, {Kind: 1, Count: 4}, {Kind: 1, Size: 9},
		raw(file, 1, 4), raw(file, 0, 4), raw(file, 2, 3), raw(file, 2, 5), raw(file, 2, 0), raw(file, 2, 1), raw(file, 2, 8),
		{Kind: 2, Start: 2, Count: 4, Size: 64}, {Kind: 2, Start: 65533, Count: 4}, {Kind: 3, Start: 2, Count: 4, Size: 64}, {Kind: 3, Start: 2, Count: 4, Size: 50},
		{Kind: 3, Start: 2, Count: 1}, {Kind: 3, Start: 2, Count: 1, Size: 17}, {Kind: 3, Start: 2, Count: 2, Size: 16}, {Kind: 3, Start: 1, Count: 1, Size: 5}, {Kind: 3, Start: 2},
	}
	for _, n := range farNumbers {
		l = append(l, api.Entry{Kind: n}, api.Entry{Kind: 2, Start: n, Count: 4}, api.Entry{Kind: 2, Start: 2, Count: n}, api.Entry{Kind: 2, Start: 2, Count: 4, Size: n})
		l = append(l, api.Entry{Kind: 3, Start: n, Count: 1, Size: 1}, api.Entry{Kind: 3, Start: 2, Count: n, Size: n}, api.Entry{Kind: 3, Start: 2, Count: n, Size: 16 * n}, api.Entry{Kind: 3, Start: 2, Count: 1, Size: n}, api.Entry{Kind: 3, Start: n, Count: n, Size: n})
	}
	return l
}

// 15.1: ErrArg comes ahead of all others, whether the file has the sectors or not.
func TestBytesOfEntriesThatAreNotValid(t *testing.T) {
	long := fileOf(65600)
	for _, file := range [][]byte{nil, {1, 2}, fileOf(3), fileOf(40), long} {
		for _, e := range notValid(long) {
			checkRefused(t, "the entry", e, file, 2, api.ErrArg)
		}
		for _, cluster := range append(farNumbers, 7, 8, 32, 63, 64, 65) {
			for _, e := range []api.Entry{{}, zero, raw(long, 2, 1), {Kind: 3, Start: 2, Count: 1, Size: 1}, {Kind: 2, Start: 2, Count: 128}, {Kind: 2, Start: 2}, {Kind: 2, Start: 2, Count: cluster}} {
				checkRefused(t, "the cluster", e, file, cluster, api.ErrArg)
			}
		}
	}
}

// 15.1: only whole sectors count, and ErrRange comes ahead of ErrSum.
func TestBytesBeyondTheFile(t *testing.T) {
	long := fileOf(80)
	for cluster := range 7 {
		for _, start := range []int{2, 3, 4, 9} {
			e := raw(long, start, 1<<cluster)
			wrong := e
			wrong.Sum++
			for n := range len(long) {
				if n/16 >= start+1<<cluster {
					checkBytes(t, "within", e, long[:n], cluster, long[start*16:(start+1<<cluster)*16])
					checkRefused(t, "a wrong sum", wrong, long[:n], cluster, api.ErrSum)
				} else {
					checkRefused(t, "beyond", e, long[:n], cluster, api.ErrRange)
					checkRefused(t, "beyond, a wrong sum", wrong, long[:n], cluster, api.ErrRange)
				}
			}
		}
		checkRefused(t, "wholly beyond", api.Entry{Kind: 2, Start: 65536 - 1<<cluster, Count: 1 << cluster}, long, cluster, api.ErrRange)
	}
	for _, n := range []int{0, 15, 16, 17, 31, 32, 33, 47} {
		checkRefused(t, "EntryRaw", raw(long, 2, 1), long[:n], 0, api.ErrRange)
		checkRefused(t, "EntryPacked", api.Entry{Kind: 3, Start: 2, Count: 1, Size: 1}, long[:n], 1, api.ErrRange)
	}
	checkBytes(t, "EntryRaw", raw(long, 2, 1), long[:48], 0, long[32:48])
	checkRefused(t, "no data", api.Entry{Kind: 3, Start: 2, Count: 1, Size: 1}, long[:48], 1, api.ErrSum)
}

// 15.1: packed bytes that are beyond the file, whatever they would tell.
func TestBytesOfPackedBeyondTheFile(t *testing.T) {
	file := fileOf(40)
	contents := bytes.Repeat([]byte{9}, 64)
	e := packed(file, 30, repeated(9, 64, 30), contents)
	want(t, "the sectors", e.Count, 3)
	for n := range len(file) {
		if n < 33*16 {
			checkRefused(t, "beyond", e, file[:n], 2, api.ErrRange)
		} else {
			checkBytes(t, "within", e, file[:n], 2, contents)
		}
	}
}

// 15.1: each bit of the contents, and each one of Sum.
func TestBytesOfAWrongSum(t *testing.T) {
	file := fileOf(12)
	contents := bytes.Repeat([]byte{5}, 32)
	for cluster, e := range []api.Entry{raw(file, 2, 1), packed(file, 8, repeated(5, 32, 3), contents)} {
		for bit := range 32 {
			wrong := e
			wrong.Sum ^= 1 << bit
			checkRefused(t, "Sum", wrong, file, cluster, api.ErrSum)
		}
	}
	for bit := range 128 {
		file[2*16+bit/8] ^= 1 << (bit % 8)
		checkRefused(t, "a bit", raw(fileOf(12), 2, 1), file, 0, api.ErrSum)
		file[2*16+bit/8] ^= 1 << (bit % 8)
	}
	checkBytes(t, "no bit", raw(fileOf(12), 2, 1), file, 0, file[32:48])
}

// 15.1: neither the Sum of the packed bytes nor that of the sectors is the one of the contents.
func TestBytesOfPackedHasTheSumOfTheContents(t *testing.T) {
	file := fileOf(12)
	contents := bytes.Repeat([]byte{5}, 32)
	data := repeated(5, 32, 3)
	e := packed(file, 8, data, contents)
	checkBytes(t, "that of the contents", e, file, 1, contents)
	for _, sum := range []uint32{crc.Sum(data), crc.Sum(file[8*16 : 9*16]), 0, 1, math.MaxUint32, crc.Sum(contents[:31])} {
		e.Sum = sum
		checkRefused(t, "another", e, file, 1, api.ErrSum)
	}
}

// 15.1: packed bytes that can't be unpacked, whatever Sum says.
func TestBytesThatCannotBeUnpacked(t *testing.T) {
	contents := make([]byte, 64)
	for _, data := range [][]byte{{0x10}, {0x40, 1, 2}, {0xf0}, {0xf0, 255}, {0x10, 1, 0, 0}, {0x10, 1, 2, 0}, {0x10, 1, 1}, {0x1f, 1, 1, 0}, {0, 0, 0}, {0, 1, 0}, {0xf0, 50, 1, 2}} {
		file := fileOf(12)
		for _, told := range [][]byte{contents, nil, data, data[1:]} {
			checkRefused(t, fmt.Sprintf("%x", data), packed(file, 8, data, told), file, 2, api.ErrSum)
		}
	}
}

// 15.1: the output has exactly as many bytes as a cluster; that it begins with them or that its Sum is right is not
// enough.
func TestBytesOfOutputsOfOtherLengths(t *testing.T) {
	for cluster := 1; cluster < 7; cluster++ {
		size := 16 << cluster
		for _, n := range []int{5, 16, size / 2, size - 16, size - 1, size, size + 1, size + 16, 2 * size, 3000} {
			file := fileOf(60)
			data := repeated(3, n, 1)
			if len(data) > size-16 {
				continue
			}
			for _, told := range []int{n, size} {
				e := packed(file, 8, data, bytes.Repeat([]byte{3}, told))
				if n == size {
					checkBytes(t, "just so", e, file, cluster, bytes.Repeat([]byte{3}, size))
				} else {
					checkRefused(t, fmt.Sprint(n, " bytes"), e, file, cluster, api.ErrSum)
				}
			}
		}
	}
	file := fileOf(12)
	checkRefused(t, "no byte", packed(file, 8, []byte{0}, nil), file, 1, api.ErrSum)
}

// 15.1: the data are what Size tells, neither a byte less nor one more.
func TestBytesOfAnotherSize(t *testing.T) {
	file := make([]byte, 12*16)
	contents := bytes.Repeat([]byte{6}, 64)
	e := packed(file, 8, repeated(6, 64, 20), contents)
	whole := e.Size
	want(t, "the sectors", e.Count, 2)
	for size := 17; size <= 32; size++ {
		e.Size = size
		// The byte behind the data is a token that tells nothing more; that and another one would begin a copy.
		if size == whole || size == whole+1 {
			checkBytes(t, "the whole", e, file, 2, contents)
		} else {
			checkRefused(t, fmt.Sprint("Size ", size), e, file, 2, api.ErrSum)
		}
	}
}

// 15.1: any entry over any small file is held against the words of the chapter.
func TestBytesOfAny(t *testing.T) {
	random := rand.New(rand.NewSource(2))
	kinds := make(map[api.Errno]int)
	for range 40000 {
		cluster := random.Intn(3)
		file, known := someFile(random, cluster)
		l := slices.Concat(known, someEntries(random, file, cluster, known))
		e := l[random.Intn(len(l))]
		wanted, errno := modelBytes(e, file, cluster)
		if errno == api.OK {
			checkBytes(t, "any", e, file, cluster, wanted)
		} else {
			checkRefused(t, "any", e, file, cluster, errno)
		}
		kinds[errno]++
	}
	if kinds[api.OK] < 5000 || kinds[api.ErrRange] < 5000 || kinds[api.ErrSum] < 1000 {
		t.Error("too few of a kind:", kinds)
	}
}
