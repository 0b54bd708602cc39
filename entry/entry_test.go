package entry

import (
	"bytes"
	"math"
	"math/rand"
	"slices"
	"sync"
	"testing"

	"matryoshka/api"
)

var sums = []uint32{0, 1, 255, 256, 0x01020304, 0xa1b2c3d4, 1<<31 - 1, 1 << 31, 1<<31 + 1, math.MaxUint32 - 1, math.MaxUint32}

// bytesOf are the numbers of an entry by division, the least significant byte first.
func bytesOf(kind, zero, count, start, size, sum int) []byte {
	b := []byte{byte(kind), byte(zero), byte(count % 256), byte(count / 256 % 256)}
	for _, n := range []int{start, size, sum} {
		for range 4 {
			b = append(b, byte(n%256))
			n /= 256
		}
	}
	return b
}

func encodingOf(e api.Entry) []byte {
	return bytesOf(e.Kind, 0, e.Count, e.Start, e.Size, int(e.Sum))
}

// entries are valid entries of each kind for clusters of this size, at the edges and between them.
func entries(cluster int) []api.Entry {
	whole := sectors(cluster)
	all := []api.Entry{{}, {Kind: api.EntryZero}}
	for _, start := range []int{2, 3, 255, 256, 0x1234, 65535 - whole, 65536 - whole} {
		for _, sum := range sums {
			all = append(all, raw(start, whole, sum))
		}
	}
	for count := 1; count < whole; count++ {
		for _, start := range []int{2, 0x1234, 65536 - count} {
			for _, size := range []int{count*16 - 15, count*16 - 8, count * 16} {
				all = append(all, packed(start, count, size, sums[count%len(sums)]))
			}
		}
	}
	return all
}

// noEntries are entries that are not valid for clusters of this size, each by one field.
func noEntries(cluster int) []api.Entry {
	whole := sectors(cluster)
	all := []api.Entry{
		{Kind: 4}, {Kind: 5}, {Kind: 255}, {Start: 1}, {Start: 2}, {Count: 1}, {Size: 1}, {Sum: 1}, {Sum: 1 << 31},
		{Kind: 1, Start: 1}, {Kind: 1, Start: 2}, {Kind: 1, Count: 1}, {Kind: 1, Count: 256}, {Kind: 1, Size: 1}, {Kind: 1, Sum: 1}, {Kind: 1, Sum: math.MaxUint32},
		raw(0, whole, 1), raw(1, whole, 1), raw(65537-whole, whole, 1), raw(65536, whole, 1), raw(1<<31, whole, 1), raw(1<<32-1, whole, 1),
		raw(2, whole-1, 1), raw(2, whole+1, 1), raw(2, 0, 1), raw(2, whole+256, 1), raw(2, 65535, 1),
		{Kind: 2, Start: 2, Count: whole, Size: 1}, {Kind: 2, Start: 2, Count: whole, Size: whole * 16}, {Kind: 2, Start: 2, Count: whole, Size: 1 << 24},
		packed(2, 0, 0, 1), packed(2, 0, 1, 1), packed(2, whole, whole*16, 1), packed(2, whole, whole*16-15, 1), packed(2, whole+1, whole*16+1, 1),
		packed(2, 65535, 65535*16, 1),
	}
	for count := 1; count < whole; count++ {
		all = append(all,
			packed(0, count, count*16, 1), packed(1, count, count*16, 1), packed(65537-count, count, count*16, 1), packed(65536, count, count*16, 1),
			packed(2, count, count*16-16, 1), packed(2, count, count*16+1, 1), packed(2, count, 0, 1), packed(2, count, 1<<32-1, 1), packed(2, count, count*16+65536, 1),
		)
	}
	return all
}

func checkPut(t *testing.T, e api.Entry, cluster int, want []byte) {
	t.Helper()
	if got, errno := Put(e, cluster); errno != api.OK || !bytes.Equal(got, want) {
		t.Errorf("Put(%+v, %d) = %x, %d, want %x", e, cluster, got, errno, want)
	}
}

func checkNotPut(t *testing.T, e api.Entry, cluster int) {
	t.Helper()
	if got, errno := Put(e, cluster); errno != api.ErrArg || len(got) != 0 {
		t.Errorf("Put(%+v, %d) = %x, %d", e, cluster, got, errno)
	}
}

func checkGet(t *testing.T, b []byte, cluster int, want api.Entry) {
	t.Helper()
	if got, errno := Get(b, cluster); errno != api.OK || got != want {
		t.Errorf("Get(%x, %d) = %+v, %d, want %+v", b, cluster, got, errno, want)
	}
}

func checkNoEntry(t *testing.T, b []byte, cluster int) {
	t.Helper()
	if got, errno := Get(b, cluster); errno != api.ErrForm || got != (api.Entry{}) {
		t.Errorf("Get(%x, %d) = %+v, %d", b, cluster, got, errno)
	}
}

var encodings = []struct {
	e       api.Entry
	cluster int
	b       string
}{
	{api.Entry{Kind: api.EntryNone}, 3, "\x00\x00\x00\x00\x00\x00\x00\x00\x00\x00\x00\x00\x00\x00\x00\x00"},
	{api.Entry{Kind: api.EntryZero}, 0, "\x01\x00\x00\x00\x00\x00\x00\x00\x00\x00\x00\x00\x00\x00\x00\x00"},
	{api.Entry{Kind: api.EntryRaw, Start: 0x1234, Count: 64, Sum: 0xa1b2c3d4}, 6, "\x02\x00\x40\x00\x34\x12\x00\x00\x00\x00\x00\x00\xd4\xc3\xb2\xa1"},
	{api.Entry{Kind: api.EntryRaw, Start: 65535, Count: 1}, 0, "\x02\x00\x01\x00\xff\xff\x00\x00\x00\x00\x00\x00\x00\x00\x00\x00"},
	{api.Entry{Kind: api.EntryPacked, Start: 2, Count: 63, Size: 1000, Sum: 1}, 6, "\x03\x00\x3f\x00\x02\x00\x00\x00\xe8\x03\x00\x00\x01\x00\x00\x00"},
	{api.Entry{Kind: api.EntryPacked, Start: 0x5678, Count: 1, Size: 1, Sum: math.MaxUint32}, 1, "\x03\x00\x01\x00\x78\x56\x00\x00\x01\x00\x00\x00\xff\xff\xff\xff"},
}

// 7.2
func TestPutByteByByte(t *testing.T) {
	for _, c := range encodings {
		checkPut(t, c.e, c.cluster, []byte(c.b))
	}
}

// 7.2: the example, at each cluster.
func TestPutOfTheExample(t *testing.T) {
	for cluster := range 7 {
		checkPut(t, api.Entry{Kind: api.EntryZero}, cluster, append([]byte{1}, make([]byte, 15)...))
		checkPut(t, api.Entry{}, cluster, make([]byte, 16))
	}
}

// 7.2
func TestPutOfValidEntries(t *testing.T) {
	for cluster := range 7 {
		for _, e := range entries(cluster) {
			checkPut(t, e, cluster, encodingOf(e))
		}
	}
}

// 7.2, R4
func TestPutOfWhatIsNotValid(t *testing.T) {
	for cluster := range 7 {
		for _, e := range noEntries(cluster) {
			checkNotPut(t, e, cluster)
		}
		for _, e := range oneOfEach(cluster) {
			for _, n := range far {
				start, count, size, kind := e, e, e, e
				start.Start, count.Count, size.Size, kind.Kind = n, n, n, n
				for _, x := range []api.Entry{start, count, size, kind} {
					checkNotPut(t, x, cluster)
				}
				checkNotPut(t, e, n)
			}
			for _, none := range noClusters {
				checkNotPut(t, e, none)
			}
		}
	}
}

// 7.2: ErrArg just where May is false.
func TestPutJustWhereMay(t *testing.T) {
	numbers := []int{math.MinInt, -1, 0, 1, 2, 3, 4, 15, 16, 17, 32, 64, 1008, 65472, 65535, 65536, math.MaxInt}
	found := 0
	for kind := -1; kind <= 4; kind++ {
		for _, start := range numbers {
			for _, count := range numbers {
				for _, size := range numbers {
					for cluster := -1; cluster <= 7; cluster++ {
						e := api.Entry{Kind: kind, Start: start, Count: count, Size: size}
						if !May(e, cluster) {
							checkNotPut(t, e, cluster)
							continue
						}
						found++
						checkPut(t, e, cluster, encodingOf(e))
					}
				}
			}
		}
	}
	if found < 100 {
		t.Errorf("%d entries", found)
	}
}

// 7.3
func TestGetByteByByte(t *testing.T) {
	for _, c := range encodings {
		checkGet(t, []byte(c.b), c.cluster, c.e)
	}
}

// 7.3
func TestGetOfWhatPutReturned(t *testing.T) {
	for cluster := range 7 {
		for _, e := range entries(cluster) {
			b, errno := Put(e, cluster)
			if errno != api.OK {
				t.Fatalf("Put(%+v, %d): %d", e, cluster, errno)
			}
			checkGet(t, b, cluster, e)
			checkGet(t, encodingOf(e), cluster, e)
		}
	}
}

// 7.3: an entry is one for some clusters only.
func TestGetOfAnotherCluster(t *testing.T) {
	for cluster := range 7 {
		whole := encodingOf(raw(5, sectors(cluster), 6))
		for other := -1; other <= 7; other++ {
			if other != cluster {
				checkNoEntry(t, whole, other)
			}
			if other <= cluster && cluster > 0 {
				checkNoEntry(t, encodingOf(packed(5, sectors(cluster)-1, sectors(cluster)*16-20, 6)), other-1)
			}
		}
	}
	for _, cluster := range noClusters {
		for _, c := range encodings {
			checkNoEntry(t, []byte(c.b), cluster)
			checkNoEntry(t, nil, cluster)
		}
	}
}

// 7.3, R4: what is ahead of 16 bytes or behind them is an encoding, or zeros.
func TestGetOfAnotherLength(t *testing.T) {
	for _, c := range encodings {
		long := []byte(c.b + c.b + c.b)
		for length := range len(long) + 1 {
			if length != 16 {
				checkNoEntry(t, slices.Clone(long[:length]), c.cluster)
				checkNoEntry(t, long[:length], c.cluster)
				checkNoEntry(t, slices.Clone(long[len(long)-length:]), c.cluster)
				checkNoEntry(t, make([]byte, length), c.cluster)
			}
			checkNoEntry(t, append([]byte(c.b), make([]byte, 1+length)...), c.cluster)
		}
		checkNoEntry(t, nil, c.cluster)
		checkNoEntry(t, []byte{}, c.cluster)
		checkNoEntry(t, make([]byte, 0, 16), c.cluster)
		checkNoEntry(t, make([]byte, 1<<16), c.cluster)
	}
}

// 7.3: what stands in the spare capacity is none of the bytes.
func TestGetInTheSpareCapacity(t *testing.T) {
	for _, c := range encodings {
		room := []byte("##" + c.b + "##")
		checkGet(t, room[2:18], c.cluster, c.e)
		checkNoEntry(t, room[2:17], c.cluster)
		checkNoEntry(t, room[3:18], c.cluster)
	}
}

// 7.3, R4
func TestGetOfASecondByteThatIsNotZero(t *testing.T) {
	for _, c := range encodings {
		for value := 1; value < 256; value++ {
			b := []byte(c.b)
			b[1] = byte(value)
			checkNoEntry(t, b, c.cluster)
		}
	}
}

// 7.3, R4
func TestGetOfFieldsThatAreNotValid(t *testing.T) {
	for cluster := range 7 {
		for _, e := range noEntries(cluster) {
			checkNoEntry(t, encodingOf(e), cluster)
		}
		for kind := 4; kind < 256; kind++ {
			for _, e := range oneOfEach(cluster) {
				e.Kind = kind
				checkNoEntry(t, encodingOf(e), cluster)
			}
		}
	}
}

// 7.3: an entry with one bit turned is another entry, whose encoding these bytes are, or there is none.
func TestGetOfOneBitTurned(t *testing.T) {
	for cluster := range 7 {
		for _, e := range entries(cluster) {
			for bit := range 128 {
				b := encodingOf(e)
				b[bit/8] ^= 1 << (bit % 8)
				got, errno := Get(b, cluster)
				if errno != api.OK {
					checkNoEntry(t, b, cluster)
					continue
				}
				if got == e {
					t.Errorf("Get(%x, %d) = %+v, as without bit %d", b, cluster, got, bit)
				}
				checkPut(t, got, cluster, b)
			}
		}
	}
}

// 7.3: whatever the bytes, Get has the entry whose encoding they are, or there is none.
func TestGetOfAnyBytes(t *testing.T) {
	random := rand.New(rand.NewSource(7))
	found := 0
	for range 50000 {
		cluster, count := random.Intn(7), random.Intn(67)
		e := api.Entry{Kind: random.Intn(5), Start: random.Intn(1 << 17), Count: count, Sum: random.Uint32()}
		if e.Kind > 2 {
			e.Size = max(0, count*16-random.Intn(18)+1)
		}
		b := encodingOf(e)
		got, errno := Get(b, cluster)
		if errno != api.OK {
			checkNoEntry(t, b, cluster)
			checkNotPut(t, e, cluster)
			continue
		}
		found++
		if got != e {
			t.Errorf("Get(%x, %d) = %+v, want %+v", b, cluster, got, e)
		}
		checkPut(t, e, cluster, b)
	}
	if found < 500 || found > 25000 {
		t.Errorf("%d entries", found)
	}
}

// R3
func TestArgumentsAreNotChanged(t *testing.T) {
	for _, given := range [][]byte{[]byte(encodings[2].b), []byte(encodings[4].b), make([]byte, 16), []byte("another length"), nil} {
		room := append(slices.Clone(given), "behind the length"...)
		b, before := room[:len(given)], slices.Clone(room)
		for cluster := -1; cluster <= 7; cluster++ {
			Get(b, cluster)
		}
		if !bytes.Equal(room, before) {
			t.Errorf("%x was changed to %x", before, room)
		}
	}
}

// scribble writes over all of a list, and into its spare capacity.
func scribble(b []byte) {
	b = b[:cap(b)]
	for i := range b {
		b[i] = 0xff
	}
}

// R3
func TestResultsAreNewMemory(t *testing.T) {
	for _, c := range encodings {
		first, _ := Put(c.e, c.cluster)
		second, _ := Put(c.e, c.cluster)
		scribble(first)
		if _ = append(first, "and more"...); string(second) != c.b {
			t.Errorf("%x", second)
		}
		checkPut(t, c.e, c.cluster, []byte(c.b))
	}
}

// R3: nothing of what was handed in is kept.
func TestArgumentsAreNotKept(t *testing.T) {
	for _, c := range encodings {
		b := []byte(c.b)
		e, _ := Get(b, c.cluster)
		scribble(b)
		if e != c.e {
			t.Errorf("%+v", e)
		}
		checkNoEntry(t, b, c.cluster)
		copy(b, c.b)
		checkGet(t, b, c.cluster, c.e)
	}
}

// R1 and R5: the same calls have the same results, whatever runs beside them.
func TestCallsShareNothing(t *testing.T) {
	shared := []byte(encodings[4].b)
	var all sync.WaitGroup
	for k := range 8 {
		all.Go(func() {
			for i := range 200 {
				e := packed(2+i, 1+k, 16*k+1+i%16, uint32(i*k))
				b, _ := Put(e, 6)
				got, errno := Get(b, 6)
				_, none := Get(b[:15], 6)
				other, _ := Get(shared, 6)
				if got != e || errno != api.OK || none != api.ErrForm || other != encodings[4].e || May(e, 0) {
					t.Error("another result")
				}
			}
		})
	}
	all.Wait()
}
