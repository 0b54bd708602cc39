package slot

import (
	"bytes"
	"math"
	"math/rand"
	"slices"
	"sync"
	"testing"

	"matryoshka/api"
)

// least and most are the bounds of Seq, Start and Count, as the chapter and package api name them.
var (
	least = [3]int{1, 2, 1}
	most  = [3]int{2147483648, 65536, 1048576}
)

func slotOf(fields [3]int, sum uint32) api.Slot {
	return api.Slot{Seq: fields[0], Start: fields[1], Count: fields[2], Sum: sum}
}

// bytesOf are four numbers of 4 bytes each by division, the least significant byte first.
func bytesOf(numbers ...int) []byte {
	var b []byte
	for _, n := range numbers {
		for range 4 {
			b = append(b, byte(n%256))
			n /= 256
		}
	}
	return b
}

func encodingOf(s api.Slot) []byte {
	return bytesOf(s.Seq, s.Start, s.Count, int(s.Sum))
}

// withinBounds are numbers that a field may be: its edges, and some between.
func withinBounds(place int) []int {
	all := []int{least[place], least[place] + 1, most[place] - 1, most[place], most[place] / 3, 0x01020304 % most[place]}
	for bit := least[place]; bit <= most[place]; bit *= 2 {
		all = append(all, bit)
	}
	return all
}

// outOfBounds are numbers that a field may not be.
func outOfBounds(place int) []int {
	return []int{
		least[place] - 1, -least[place], -1, -2, -most[place], -1 << 31, -1<<31 - 1, math.MinInt, math.MinInt + 1,
		most[place] + 1, 1<<32 - 1, 1 << 32, 1<<32 + least[place], 1<<32 + most[place], math.MaxInt,
		math.MinInt + least[place], -1<<32 + most[place],
	}
}

// outOfBoundsInBytes are numbers of 4 bytes that a field may not be.
func outOfBoundsInBytes(place int) []int {
	return []int{least[place] - 1, 0, most[place] + 1, most[place] * 2 % (1 << 32), 1<<31 + 1, 1<<32 - 2, 1<<32 - 1}
}

var sums = []uint32{0, 1, 255, 256, 0x01020304, 0xa1b2c3d4, 1<<31 - 1, 1 << 31, 1<<31 + 1, math.MaxUint32 - 1, math.MaxUint32}

// slots are slots within their bounds: each field through all its numbers, and each sum.
func slots() []api.Slot {
	var all []api.Slot
	for place := range 3 {
		for _, n := range withinBounds(place) {
			fields := [3]int{7, 8, 9}
			fields[place] = n
			all = append(all, slotOf(fields, 0x12345678))
		}
	}
	for _, sum := range sums {
		all = append(all, slotOf(least, sum), slotOf([3]int{1, 65536, 1}, sum), slotOf(most, sum))
	}
	return all
}

func checkPut(t *testing.T, s api.Slot, want []byte) {
	t.Helper()
	if got, errno := Put(s); errno != api.OK || !bytes.Equal(got, want) {
		t.Errorf("Put(%+v) = %x, %d, want %x", s, got, errno, want)
	}
}

func checkNotPut(t *testing.T, s api.Slot) {
	t.Helper()
	if got, errno := Put(s); errno != api.ErrArg || len(got) != 0 {
		t.Errorf("Put(%+v) = %x, %d", s, got, errno)
	}
}

func checkGet(t *testing.T, b []byte, want api.Slot) {
	t.Helper()
	if got, errno := Get(b); errno != api.OK || got != want {
		t.Errorf("Get(%x) = %+v, %d, want %+v", b, got, errno, want)
	}
}

func checkNoSlot(t *testing.T, b []byte) {
	t.Helper()
	if got, errno := Get(b); errno != api.ErrForm || got != (api.Slot{}) {
		t.Errorf("Get(%x) = %+v, %d", b, got, errno)
	}
}

var encodings = []struct {
	s api.Slot
	b string
}{
	{api.Slot{Seq: 1, Start: 2, Count: 1, Sum: 0}, "\x01\x00\x00\x00\x02\x00\x00\x00\x01\x00\x00\x00\x00\x00\x00\x00"},
	{api.Slot{Seq: 0x01020304, Start: 0x5678, Count: 0x9abcd, Sum: 0xa1b2c3d4}, "\x04\x03\x02\x01\x78\x56\x00\x00\xcd\xab\x09\x00\xd4\xc3\xb2\xa1"},
	{api.Slot{Seq: 1 << 31, Start: api.MaxFile, Count: api.MaxBlob, Sum: math.MaxUint32}, "\x00\x00\x00\x80\x00\x00\x01\x00\x00\x00\x10\x00\xff\xff\xff\xff"},
	{api.Slot{Seq: 255, Start: 256, Count: 65535, Sum: 1}, "\xff\x00\x00\x00\x00\x01\x00\x00\xff\xff\x00\x00\x01\x00\x00\x00"},
	{api.Slot{Seq: 1<<31 - 1, Start: 3, Count: 2, Sum: 1 << 31}, "\xff\xff\xff\x7f\x03\x00\x00\x00\x02\x00\x00\x00\x00\x00\x00\x80"},
}

// 6.1
func TestPutByteByByte(t *testing.T) {
	for _, c := range encodings {
		checkPut(t, c.s, []byte(c.b))
	}
}

// 6.1
func TestPutOfWhatIsWithinBounds(t *testing.T) {
	for _, s := range slots() {
		checkPut(t, s, encodingOf(s))
	}
}

// 6.1: the bounds as numbers.
func TestPutAtTheBounds(t *testing.T) {
	good := api.Slot{Seq: 1, Start: 2, Count: 1, Sum: 5}
	for _, c := range []struct {
		n     int
		set   func(s *api.Slot, n int)
		errno api.Errno
	}{
		{-1, setSeq, api.ErrArg}, {0, setSeq, api.ErrArg}, {1, setSeq, api.OK},
		{1<<31 - 1, setSeq, api.OK}, {1 << 31, setSeq, api.OK}, {1<<31 + 1, setSeq, api.ErrArg},
		{-1, setStart, api.ErrArg}, {0, setStart, api.ErrArg}, {1, setStart, api.ErrArg}, {2, setStart, api.OK},
		{api.MaxFile, setStart, api.OK}, {api.MaxFile + 1, setStart, api.ErrArg},
		{-1, setCount, api.ErrArg}, {0, setCount, api.ErrArg}, {1, setCount, api.OK},
		{api.MaxBlob, setCount, api.OK}, {api.MaxBlob + 1, setCount, api.ErrArg},
	} {
		s := good
		c.set(&s, c.n)
		got, errno := Put(s)
		if errno != c.errno || (errno == api.OK) != (len(got) == 16) || (errno != api.OK) != (len(got) == 0) {
			t.Errorf("Put(%+v) = %x, %d, want %d", s, got, errno, c.errno)
		}
	}
}

func setSeq(s *api.Slot, n int)   { s.Seq = n }
func setStart(s *api.Slot, n int) { s.Start = n }
func setCount(s *api.Slot, n int) { s.Count = n }

// 6.1, R1, R4: one field out of its bounds, what its low 4 bytes would be or not.
func TestPutOfOneFieldOutOfBounds(t *testing.T) {
	for place := range 3 {
		for _, n := range outOfBounds(place) {
			for _, sum := range sums {
				for _, fields := range [][3]int{least, most, {3, 4, 5}} {
					fields[place] = n
					checkNotPut(t, slotOf(fields, sum))
				}
			}
		}
	}
}

// 6.1, R4
func TestPutOfMoreFieldsOutOfBounds(t *testing.T) {
	checkNotPut(t, api.Slot{})
	checkNotPut(t, api.Slot{Sum: math.MaxUint32})
	for _, seq := range append(outOfBounds(0), 3) {
		for _, start := range append(outOfBounds(1), 3) {
			for _, count := range append(outOfBounds(2), 3) {
				if seq != 3 || start != 3 || count != 3 {
					checkNotPut(t, api.Slot{Seq: seq, Start: start, Count: count, Sum: 4})
				}
			}
		}
	}
}

// 6.2
func TestGetByteByByte(t *testing.T) {
	for _, c := range encodings {
		checkGet(t, []byte(c.b), c.s)
	}
}

// 6.2
func TestGetOfWhatPutReturned(t *testing.T) {
	for _, s := range slots() {
		b, errno := Put(s)
		if errno != api.OK {
			t.Fatalf("Put(%+v): %d", s, errno)
		}
		checkGet(t, b, s)
		checkGet(t, encodingOf(s), s)
	}
}

// 6.2, R4: what is ahead of 16 bytes or behind them is an encoding, or zeros.
func TestGetOfAnotherLength(t *testing.T) {
	for _, c := range encodings {
		long := []byte(c.b + c.b + c.b)
		for length := range len(long) + 1 {
			if length != 16 {
				checkNoSlot(t, slices.Clone(long[:length]))
				checkNoSlot(t, long[:length])
				checkNoSlot(t, slices.Clone(long[len(long)-length:]))
				checkNoSlot(t, append([]byte(c.b), make([]byte, 1+length)...))
			}
		}
	}
	checkNoSlot(t, nil)
	checkNoSlot(t, []byte{})
	checkNoSlot(t, make([]byte, 0, 16))
	checkNoSlot(t, []byte(encodings[0].b)[:0])
	checkNoSlot(t, append(bytesOf(1, 2, 1, 0), make([]byte, 1<<16)...))
}

// 6.2: what stands in the spare capacity is none of the bytes.
func TestGetInTheSpareCapacity(t *testing.T) {
	for _, c := range encodings {
		room := []byte("##" + c.b + "##")
		checkGet(t, room[2:18], c.s)
		checkNoSlot(t, room[2:17])
		checkNoSlot(t, room[3:18])
	}
}

// 6.2, R4
func TestGetOfOneFieldOutOfBounds(t *testing.T) {
	for place := range 3 {
		for _, n := range outOfBoundsInBytes(place) {
			for _, fields := range [][3]int{least, most, {3, 4, 5}} {
				fields[place] = n
				for _, sum := range sums {
					checkNoSlot(t, bytesOf(fields[0], fields[1], fields[2], int(sum)))
				}
			}
		}
	}
}

// 6.2: the bounds as numbers.
func TestGetAtTheBounds(t *testing.T) {
	for _, c := range []struct {
		seq, start, count int
		errno             api.Errno
	}{
		{0, 2, 1, api.ErrForm}, {1, 2, 1, api.OK}, {1 << 31, 2, 1, api.OK}, {1<<31 + 1, 2, 1, api.ErrForm},
		{1, 0, 1, api.ErrForm}, {1, 1, 1, api.ErrForm}, {1, api.MaxFile, 1, api.OK}, {1, api.MaxFile + 1, 1, api.ErrForm},
		{1, 2, 0, api.ErrForm}, {1, 2, api.MaxBlob, api.OK}, {1, 2, api.MaxBlob + 1, api.ErrForm},
		{0, 1, 1, api.ErrForm}, {0, 2, 0, api.ErrForm}, {1, 1, 0, api.ErrForm}, {0, 0, 0, api.ErrForm},
		{1<<31 + 1, api.MaxFile + 1, api.MaxBlob + 1, api.ErrForm},
	} {
		for _, sum := range sums {
			b := bytesOf(c.seq, c.start, c.count, int(sum))
			if c.errno == api.OK {
				checkGet(t, b, api.Slot{Seq: c.seq, Start: c.start, Count: c.count, Sum: sum})
				continue
			}
			checkNoSlot(t, b)
		}
	}
}

// 6.2, R4
func TestGetOfOneByteOnly(t *testing.T) {
	checkNoSlot(t, make([]byte, 16))
	for value := range 256 {
		b := bytes.Repeat([]byte{byte(value)}, 16)
		checkNoSlot(t, b)
	}
}

// 6.2: whatever the bytes, Get has the slot whose encoding they are, or there is none.
func TestGetOfAnyBytes(t *testing.T) {
	random := rand.New(rand.NewSource(6))
	found := 0
	for range 20000 {
		b := bytesOf(random.Intn(1<<32), random.Intn(1<<17), random.Intn(1<<21), random.Intn(1<<32))
		s, errno := Get(b)
		if errno != api.OK {
			checkNoSlot(t, b)
			checkNotPut(t, api.Slot{Seq: number(b, 0), Start: number(b, 1), Count: number(b, 2), Sum: uint32(number(b, 3))})
			continue
		}
		found++
		checkPut(t, s, b)
	}
	if found < 1000 || found > 10000 {
		t.Errorf("%d slots", found)
	}
}

// number is one of the numbers of bytesOf.
func number(b []byte, place int) int {
	n := 0
	for k := 3; k >= 0; k-- {
		n = 256*n + int(b[4*place+k])
	}
	return n
}

// R3
func TestArgumentsAreNotChanged(t *testing.T) {
	for _, given := range [][]byte{[]byte(encodings[1].b), make([]byte, 16), []byte("another length"), nil} {
		other := []byte(encodings[2].b)
		room := append(slices.Clone(given), "behind the length"...)
		b, before := room[:len(given)], slices.Clone(room)
		Get(b)
		Order(b, b)
		Order(b, other)
		Order(other, b)
		if !bytes.Equal(room, before) || string(other) != encodings[2].b {
			t.Errorf("%x was changed to %x, %x", before, room, other)
		}
	}
}

// scribble writes over all of a list, and into its spare capacity.
func scribble[E any](l []E, with E) {
	l = l[:cap(l)]
	for i := range l {
		l[i] = with
	}
}

// R3
func TestResultsAreNewMemory(t *testing.T) {
	s := encodings[1].s
	first, _ := Put(s)
	second, _ := Put(s)
	scribble(first, '#')
	if _ = append(first, "and more"...); !bytes.Equal(second, encodingOf(s)) {
		t.Errorf("%x", second)
	}
	checkPut(t, s, encodingOf(s))
}

// R3: nothing of what was handed in is kept.
func TestArgumentsAreNotKept(t *testing.T) {
	b := []byte(encodings[1].b)
	s, _ := Get(b)
	scribble(b, 0xff)
	if s != encodings[1].s {
		t.Errorf("%+v", s)
	}
	checkNoSlot(t, b)
	copy(b, encodings[2].b)
	checkGet(t, b, encodings[2].s)
}

// R1 and R5: the same calls have the same results, whatever runs beside them.
func TestCallsShareNothing(t *testing.T) {
	shared := []byte(encodings[1].b)
	var all sync.WaitGroup
	for k := range 8 {
		all.Go(func() {
			for i := range 200 {
				s := api.Slot{Seq: 1 + 1000*k + i, Start: 2 + i, Count: 1 + k, Sum: uint32(i * k)}
				b, _ := Put(s)
				got, errno := Get(b)
				_, none := Get(b[:15])
				l := Order(b, shared)
				if got != s || errno != api.OK || none != api.ErrForm || !slices.Equal(l, []api.Slot{encodings[1].s, s}) {
					t.Error("another result")
				}
			}
		})
	}
	all.Wait()
}
