package meta

import (
	"bytes"
	"fmt"
	"math/rand"
	"reflect"
	"runtime"
	"slices"
	"strings"
	"testing"

	"matryoshka/api"
)

// checkGet is that b is the encoding of m.
func checkGet(t *testing.T, what string, b []byte, m api.Meta) {
	t.Helper()
	got, errno := Get(b)
	if errno != api.OK || fmt.Sprintf("%+v", got) != fmt.Sprintf("%+v", m) {
		t.Errorf("%s: %.2000s, %d, want %.2000s", what, fmt.Sprintf("%+v", got), errno, fmt.Sprintf("%+v", m))
	}
}

// checkNotGet is that b is no encoding.
func checkNotGet(t *testing.T, what string, b []byte) {
	t.Helper()
	if got, errno := Get(b); errno != api.ErrForm || !reflect.DeepEqual(got, api.Meta{}) {
		t.Errorf("%s: %.2000s, %d for %.2000s", what, fmt.Sprintf("%+v", got), errno, fmt.Sprintf("%x", b))
	}
}

// checkExact is that b is no encoding, or exactly that of what Get returns.
func checkExact(t *testing.T, what string, b []byte) {
	t.Helper()
	m, errno := Get(b)
	if errno != api.OK {
		checkNotGet(t, what, b)
	} else if !Right(m) || !bytes.Equal(bytesOf(m), b) {
		t.Errorf("%s: %+v for %.2000s", what, m, fmt.Sprintf("%x", b))
	}
}

// replaced is a copy of b with other bytes in place of some from an offset on.
func replaced(b []byte, at, n int, by ...byte) []byte {
	return slices.Concat(b[:at], by, b[at+n:])
}

// encodings are those of valid metas that have at most so many bytes and so many counts.
func encodings(most, counts int) [][]byte {
	var all [][]byte
	for _, m := range metas() {
		if b := bytesOf(m); len(b) <= most && len(m.Counts) <= counts {
			all = append(all, b)
		}
	}
	return all
}

// 14.3, 14.4
func TestGetWhatPutHasEncoded(t *testing.T) {
	all := append(metas(), large())
	random := rand.New(rand.NewSource(144))
	for range 500 {
		all = append(all, someMeta(random))
	}
	for i, m := range all {
		b, errno := Put(m)
		want(t, "the error", errno, api.OK)
		got, errno := Get(b)
		want(t, "the error", errno, api.OK)
		if !reflect.DeepEqual(got, m) {
			t.Errorf("meta %d: %.2000s, want %.2000s", i, fmt.Sprintf("%+v", got), fmt.Sprintf("%+v", m))
		}
		again, errno := Put(got)
		if errno != api.OK || !bytes.Equal(again, b) {
			t.Errorf("meta %d has another encoding once it was read: %d", i, errno)
		}
	}
}

// 14.3: by bytes that Put has not made.
func TestGetByteByByte(t *testing.T) {
	for i, m := range append(metas(), large()) {
		checkGet(t, fmt.Sprint("meta ", i), bytesOf(m), m)
	}
	checkGet(t, "the zero Meta", make([]byte, 13), api.Meta{})
	checkGet(t, "Cluster and Size", []byte("\x06\xc0\x0f\x00\x00\x00\x00\x00\x00\x00\x00\x00\x00"), api.Meta{Cluster: 6, Size: 0xfc0})
	checkGet(t, "Back", []byte("\x00\x00\x00\x02\x00.z\x00\x00\x00\x00\x00\x00\x00\x00"), api.Meta{Back: ".z"})
	checkGet(t, "a shot", []byte("\x00\x00\x00\x00\x00\x00\x00\x01\x01\x00s\x00\x10\x00\x00\x00\x00\x00\x00\x00"), api.Meta{Shots: []api.Shot{{Name: "s", Size: 4096}}})
	checkGet(t, "a bitmap", []byte("\x00\x00\x00\x00\x00\x00\x00\x00\x01\x01\x00m\x01\x01\x00\x01\x00\x00\x10\x00\x00\x00\x00"), api.Meta{Maps: []api.Bitmap{on("m", s(1, 4096))}})
	checkGet(t, "counts", []byte("\x00\x00\x00\x00\x00\x00\x00\x00\x00\x03\x00\x00\x00\x02\x00\x01\x02\x01\x00\x00\x00"), api.Meta{Counts: []int{513, 513, 0}})
}

// 14.3: bytes that end too early, and bytes with more behind.
func TestGetOfWhatIsCutOrGoesOn(t *testing.T) {
	for _, b := range encodings(1500, 65536) {
		for i := range b {
			checkNotGet(t, fmt.Sprint("cut at ", i), b[:i])
		}
		for _, c := range []byte{0, 1, 255} {
			checkNotGet(t, "a byte more", append(slices.Clone(b), c))
			checkNotGet(t, "a byte ahead", append([]byte{c}, b...))
		}
		checkNotGet(t, "twice", append(slices.Clone(b), b...))
		checkNotGet(t, "the zero Meta behind", append(slices.Clone(b), make([]byte, 13)...))
	}
	b := bytesOf(large())
	for i := 0; i < len(b); i += 50021 {
		checkNotGet(t, "cut", b[:i])
	}
	checkNotGet(t, "cut at its end", b[:len(b)-1])
	checkNotGet(t, "a byte more", append(b, 0))
}

// 14.3: the bytes ahead of the end of a list count alone, not those in its spare capacity.
func TestGetDoesNotReadSpareCapacity(t *testing.T) {
	b := bytesOf(small())
	for i := range b {
		checkNotGet(t, "cut", b[:i:len(b)])
	}
	checkGet(t, "spare bytes behind", append(slices.Clone(b), 1, 2, 3)[:len(b)], small())
}

// 14.3: no bytes, bytes of one kind, and more bytes than a blob has.
func TestGetOfBytesThatAreNothing(t *testing.T) {
	checkNotGet(t, "nil", nil)
	checkNotGet(t, "empty", []byte{})
	for n := range 300 {
		for _, c := range []byte{0, 1, 2, 7, 8, 9, 127, 128, 255} {
			if b := bytes.Repeat([]byte{c}, n); c > 0 || n != 13 {
				checkNotGet(t, fmt.Sprint(n, " bytes"), b)
			}
		}
	}
	for _, n := range []int{1 << 16, 1<<20 - 1, 1 << 20, 1<<20 + 1, 1 << 21, 1 << 24} {
		for _, c := range []byte{0, 1, 255} {
			checkNotGet(t, fmt.Sprint(n, " bytes"), bytes.Repeat([]byte{c}, n))
		}
	}
}

// 14.3: a blob that is too long, although all that is ahead of its spans is in order.
func TestGetOfMoreThanABlob(t *testing.T) {
	b := bytesOf(large())
	for _, n := range []int{1 << 20, 1<<20 + 1, 1 << 21} {
		checkNotGet(t, "with zeros behind", append(slices.Clone(b), make([]byte, n-len(b))...))
	}
	l := make([]api.Span, 65535)
	for i := range l {
		l[i] = s(i, i+1)
	}
	checkNotGet(t, "many spans", bytesOf(api.Meta{Maps: []api.Bitmap{on("a", l...), on("b", l...), on("c", l...), on("d", l...), on("e", l...)}}))
	checkNotGet(t, "fewer", bytesOf(api.Meta{Maps: []api.Bitmap{on("a", l...), on("b", l...)}}))
}

// 14.3: each byte made each other byte.
func TestGetOfTurnedBytes(t *testing.T) {
	for _, b := range encodings(900, 100) {
		for i := range b {
			for c := range 256 {
				checkExact(t, fmt.Sprintf("byte %d is %d", i, c), replaced(b, i, 1, byte(c)))
			}
		}
	}
}

// 14.3: each bit of each byte turned, where there are long runs too.
func TestGetOfTurnedBits(t *testing.T) {
	for _, b := range encodings(1500, 65536) {
		for i, c := range b {
			for bit := range 8 {
				checkExact(t, fmt.Sprintf("bit %d of byte %d", bit, i), replaced(b, i, 1, c^1<<bit))
			}
		}
	}
}

// 14.3: bytes left out, put in, and brought from somewhere else.
func TestGetOfBytesOutOfPlace(t *testing.T) {
	random := rand.New(rand.NewSource(143))
	all := encodings(1500, 100)
	for range 40000 {
		b, other := all[random.Intn(len(all))], all[random.Intn(len(all))]
		for range 1 + random.Intn(3) {
			at, from := random.Intn(len(b)+1), random.Intn(len(other)+1)
			to := from + random.Intn(min(len(other)-from, 20)+1)
			b = replaced(b, at, random.Intn(min(len(b)-at, 20)+1), other[from:to]...)
		}
		checkExact(t, "out of place", b)
	}
	for range 20000 {
		b := make([]byte, random.Intn(60))
		for i := range b {
			b[i] = byte(random.Intn(256) >> random.Intn(9))
		}
		checkExact(t, "any bytes", b)
	}
}

// 14.3 with 14.1: what is encoded in order, but is not valid.
func TestGetOfMetasThatAreNotValid(t *testing.T) {
	all := []api.Meta{
		{Cluster: 7}, {Cluster: 255}, {Cluster: 64, Size: 64}, {Cluster: 1, Size: 3}, {Cluster: 6, Size: 32}, {Size: 4097}, {Size: 65535}, {Cluster: 6, Size: 4160}, {Cluster: 3, Size: 4100},
		{T: at(0, zero)}, {Size: 9, T: at(9, zero)}, {Cluster: 1, Size: 18, T: at(9, zero)}, {Cluster: 1, Size: 20, T: at(9, raw(2, 1))}, {Size: 8, T: leaves(leafOf())}, {Size: 4097, T: at(4096, zero)},
		{Shots: shotsOf(9)}, {Shots: shotsOf(255)}, {Cluster: 2, Shots: []api.Shot{{Name: "s", Size: 6}}}, {Shots: []api.Shot{{Name: "s", Size: 4097}}}, {Size: 8, Shots: []api.Shot{{Name: "s", Size: 2, T: at(2, zero)}}},
		{Maps: mapsOf(9)}, {Maps: mapsOf(255)}, {Shots: []api.Shot{{Name: "s"}, {Name: "t"}, {Name: "s"}}}, {Maps: []api.Bitmap{on("s"), on("t"), off("t", s(1, 2))}},
	}
	for _, name := range noNames {
		if len(name) > 0 && len(name) <= 65535 {
			all = append(all, api.Meta{Back: name})
		}
		if len(name) <= 65535 {
			all = append(all, api.Meta{Shots: []api.Shot{{Name: name}}}, api.Meta{Maps: []api.Bitmap{on(name)}})
		}
	}
	for _, set := range [][]api.Span{
		{s(0, 0)}, {s(5, 4)}, {s(4, 4), s(6, 7)}, {s(0, 2), s(2, 4)}, {s(0, 3), s(2, 4)}, {s(5, 6), s(1, 2)}, {s(1, 2), s(1, 2)}, {s(0, 4097)}, {s(4096, 4097)}, {s(0, 65535)}, {s(0, 1), s(4095, 4097)}, append(manySpans(), s(4096, 4097)),
	} {
		all = append(all, api.Meta{Maps: []api.Bitmap{off("a", set...)}}, api.Meta{Maps: []api.Bitmap{on("a"), on("b", set...)}})
	}
	for _, m := range all {
		checkNotGet(t, "not valid", bytesOf(m))
	}
}

// 14.3
func TestGetOfFlagsThatAreNoFlags(t *testing.T) {
	for _, l := range [][]api.Bitmap{{on("m")}, {off("m", s(1, 4))}, {off("s"), on("m", s(1, 4))}} {
		m := api.Meta{Maps: l}
		b := bytesOf(m)
		place := bytes.IndexByte(b, 'm') + 1
		last := &l[len(l)-1]
		for flag := range 256 {
			last.On = flag == 1
			if flag <= 1 {
				checkGet(t, "a flag", replaced(b, place, 1, byte(flag)), m)
			} else {
				checkNotGet(t, fmt.Sprint("the flag ", flag), replaced(b, place, 1, byte(flag)))
			}
		}
	}
}

// countBytes are a zero meta but for its counts.
func countBytes(total int, runs ...run) []byte {
	return append(make([]byte, 9), runBytes(total, runs...)...)
}

// 14.3: runs that are not as long as possible, that have no elements, and that have more or fewer than there are.
func TestGetOfRuns(t *testing.T) {
	for _, runs := range [][]run{
		{{1, 0}}, {{65535, 0}}, {{65535, 0}, {1, 0}}, {{65535, 7}, {1, 8}}, {{1, 7}, {65535, 8}}, {{65534, 7}, {1, 8}, {1, 7}}, {{65534, 7}, {2, 8}}, {{2, 0}, {3, 65535}, {2, 0}},
	} {
		var counts []int
		for _, r := range runs {
			counts = append(counts, same(r.length, r.count)...)
		}
		checkGet(t, "runs", countBytes(len(counts), runs...), api.Meta{Counts: counts})
		for _, wrong := range []int{0, 1, len(counts) - 1, len(counts) + 1, 65536, 65537, 1 << 24, 1<<32 - 1} {
			if wrong != len(counts) {
				checkNotGet(t, "another number", countBytes(wrong, runs...))
			}
		}
	}
	for _, runs := range [][]run{
		{{1, 0}, {1, 0}}, {{2, 5}, {3, 5}}, {{1, 5}, {65534, 5}}, {{65534, 5}, {1, 5}}, {{65534, 5}, {2, 5}}, {{1, 5}, {65535, 5}}, {{2, 5}, {65534, 5}}, {{32768, 5}, {32768, 5}},
		{{1, 3}, {1, 5}, {1, 5}}, {{1, 5}, {1, 5}, {1, 3}}, {{1, 3}, {1, 5}, {1, 5}, {1, 3}}, {{1, 0}, {0, 1}}, {{0, 1}, {1, 0}}, {{1, 3}, {0, 4}, {1, 3}}, {{1, 3}, {0, 3}, {1, 4}}, {{0, 0}}, {{0, 9}},
		{{65535, 3}, {0, 3}, {1, 3}}, {{65535, 3}, {0, 4}, {1, 3}}, {{65535, 3}, {1, 3}, {0, 3}}, {{1, 3}, {0, 0}}, {{65535, 3}, {65535, 3}}, {{65535, 3}, {65535, 3}, {1, 3}}, {{65535, 3}, {2, 3}}, {{65535, 3}, {2, 4}}, {{65535, 3}, {1, 3}, {1, 4}}, {{1, 3}, {65533, 5}, {1, 5}}, {{1, 3}, {65534, 5}, {1, 5}}, {{1, 5}, {1, 3}, {65533, 5}, {1, 5}},
	} {
		total := 0
		for _, r := range runs {
			total += r.length
		}
		for _, n := range []int{total, total - 1, total + 1} {
			checkNotGet(t, fmt.Sprint(runs), countBytes(max(n, 0), runs...))
		}
	}
	checkNotGet(t, "65537 of them", countBytes(65537, runsOf(unlike(65537))...))
	checkNotGet(t, "131071 equal ones", countBytes(131071, runsOf(same(131071, 2))...))
}

// 14.3: a few bytes that tell of very many counts are refused ahead of making room for them.
func TestGetOfVeryManyCounts(t *testing.T) {
	var runs []run
	for i := range 300 {
		runs = append(runs, run{65535, i})
	}
	b := countBytes(300*65535, runs...)
	var before, after runtime.MemStats
	runtime.ReadMemStats(&before)
	checkNotGet(t, "very many", b)
	runtime.ReadMemStats(&after)
	want(t, "whether it took much memory", after.TotalAlloc-before.TotalAlloc > 1<<22, false)
}

// 14.3: numbers of things of which there are not as many.
func TestGetOfNumbersThatAreTooGreat(t *testing.T) {
	zeros := make([]byte, 13)
	for _, c := range []struct{ at, width int }{{3, 2}, {5, 2}, {7, 1}, {8, 1}, {9, 4}} {
		for _, b := range [][]byte{zeros, append(slices.Clone(zeros), 0), make([]byte, 200)} {
			checkNotGet(t, "the greatest number", replaced(b, c.at, c.width, bytes.Repeat([]byte{255}, c.width)...))
			checkNotGet(t, "1", replaced(b, c.at, c.width, number(1, c.width)...))
			checkNotGet(t, "8", replaced(b, c.at, c.width, number(8, c.width)...))
		}
	}
	spans := bytesOf(api.Meta{Maps: []api.Bitmap{on("m", s(1, 2), s(3, 4))}})
	for n := range 65536 {
		if n != 2 {
			checkNotGet(t, "spans", replaced(spans, 13, 2, number(n, 2)...))
		}
	}
	b := bytesOf(api.Meta{Shots: shotsOf(3), Maps: mapsOf(3)})
	second := len(bytesOf(api.Meta{Shots: shotsOf(3)})) - 5
	for n := range 256 {
		if n != 3 {
			checkNotGet(t, "shots", replaced(b, 7, 1, byte(n)))
			checkNotGet(t, "bitmaps", replaced(b, second, 1, byte(n)))
		}
	}
}

// 14.3: tables that Put does not write so.
func TestGetOfTablesOutOfForm(t *testing.T) {
	leaf := strings.Repeat("\x00", 112) + "\x01" + strings.Repeat("\x00", 15)
	none := strings.Repeat("\x00", 128)
	whole := func(tables string) []byte {
		return []byte("\x00\x00\x10\x00\x00" + tables + "\x00\x00\x00\x00\x00\x00")
	}
	shot := func(tables string) []byte {
		return []byte("\x00\x00\x00\x00\x00\x00\x00\x01\x01\x00s\x00\x10" + tables + "\x00\x00\x00\x00\x00")
	}
	x := at(15, zero)
	checkGet(t, "T", whole("\x01\x00\x01\x00"+leaf), api.Meta{Size: 4096, T: x})
	checkGet(t, "a shot's", shot("\x01\x00\x01\x00"+leaf), api.Meta{Shots: []api.Shot{{Name: "s", Size: 4096, T: x}}})
	for _, tables := range []string{
		"\x01\x00\x01\x00" + none, "\x02\x00\x00\x00" + none + "\x01\x00" + leaf, "\x02\x00\x01\x00" + leaf + "\x01\x00" + leaf, "\x02\x00\x01\x00" + leaf + "\x00\x00" + leaf,
		"\x01\x00\x00\x02" + leaf, "\x01\x00\xff\xff" + leaf, "\x02\x00\x01\x00" + leaf, "\x00\x00\x01\x00" + leaf, "\xff\xff\x01\x00" + leaf, "\x01\x00\x01\x00" + leaf[1:], "\x01\x00\x01\x00\x00" + leaf,
		"\x01\x00\x01\x00\x00\x01" + leaf[2:], "\x01\x00\x01\x00\x04\x00" + leaf[2:], "\x01\x00\x01\x00\x00\x00\x01" + leaf[3:],
	} {
		checkNotGet(t, "T", whole(tables))
		checkNotGet(t, "a shot's", shot(tables))
	}
}
