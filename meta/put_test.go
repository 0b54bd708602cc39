package meta

import (
	"bytes"
	"fmt"
	"math/rand"
	"slices"
	"strings"
	"testing"

	"matryoshka/api"
)

// number is n in so many bytes by division, the least significant byte first.
func number(n, width int) []byte {
	var b []byte
	for range width {
		b = append(b, byte(n%256))
		n /= 256
	}
	return b
}

func textOf(s string) []byte {
	return append(number(len(s), 2), s...)
}

func tableBytes(t api.Table) []byte {
	count, b := 0, []byte(nil)
	for i, leaf := range t.L {
		if len(leaf) == 0 {
			continue
		}
		count++
		b = append(b, number(i, 2)...)
		for _, e := range leaf {
			b = append(b, slices.Concat(number(e.Kind, 2), number(e.Count, 2), number(e.Start, 4), number(e.Size, 4), number(int(e.Sum), 4))...)
		}
	}
	return append(number(count, 2), b...)
}

// run is a run of equal counts.
type run struct{ length, count int }

// runBytes are so many counts, and these runs of them.
func runBytes(total int, runs ...run) []byte {
	b := number(total, 4)
	for _, r := range runs {
		b = append(append(b, number(r.length, 2)...), number(r.count, 2)...)
	}
	return b
}

// runsOf are the runs of counts, made one count after the other.
func runsOf(counts []int) []run {
	var runs []run
	for _, n := range counts {
		if last := len(runs) - 1; last < 0 || runs[last].count != n || runs[last].length == 65535 {
			runs = append(runs, run{0, n})
		}
		runs[len(runs)-1].length++
	}
	return runs
}

// bytesOf are the bytes of a meta in the order of 14.2.
func bytesOf(m api.Meta) []byte {
	b := slices.Concat(number(m.Cluster, 1), number(m.Size, 2), textOf(m.Back), tableBytes(m.T), number(len(m.Shots), 1))
	for _, x := range m.Shots {
		b = slices.Concat(b, textOf(x.Name), number(x.Size, 2), tableBytes(x.T))
	}
	b = append(b, number(len(m.Maps), 1)...)
	for _, x := range m.Maps {
		flag := map[bool]int{true: 1}[x.On]
		b = slices.Concat(b, textOf(x.Name), number(flag, 1), number(len(x.L), 2))
		for _, span := range x.L {
			b = append(append(b, number(span.From, 2)...), number(span.To, 2)...)
		}
	}
	return append(b, runBytes(len(m.Counts), runsOf(m.Counts)...)...)
}

func checkPut(t *testing.T, what string, m api.Meta, wanted []byte) {
	t.Helper()
	if got, errno := Put(m); errno != api.OK || !bytes.Equal(got, wanted) {
		t.Errorf("%s: %.2000s, %d, want %.2000s", what, fmt.Sprintf("%x", got), errno, fmt.Sprintf("%x", wanted))
	}
}

// 14.2: every part at its place, byte by byte.
func TestPutByteByByte(t *testing.T) {
	none := strings.Repeat("\x00", 16)
	wanted := "\x02" + "\x24\x00" + "\x0c\x00base-1_x.img" +
		"\x02\x00" + "\x00\x00" + none + "\x02\x00\x04\x00\x34\x12\x00\x00\x00\x00\x00\x00\xd4\xc3\xb2\xa1" + "\x03\x00\x03\x00\x07\x00\x00\x00\x29\x00\x00\x00\xff\xff\xff\xff" + strings.Repeat(none, 5) +
		"\x01\x00" + "\x01" + none[1:] + strings.Repeat(none, 7) +
		"\x03" +
		"\x06\x00monday" + "\x44\x00" + "\x01\x00" + "\x02\x00" + "\x03\x00\x01\x00\x09\x00\x00\x00\x01\x00\x00\x00\xff\xff\xff\xff" + strings.Repeat(none, 7) +
		"\x01\x00b" + "\x00\x00" + "\x00\x00" +
		"\x10\x000123456789abcdef" + "\x00\x10" + "\x01\x00" + "\x7f\x00" + strings.Repeat(none, 7) + "\x02\x00\x04\x00\xfc\xff\x00\x00\x00\x00\x00\x00\x05\x00\x00\x00" +
		"\x04" +
		"\x01\x00b" + "\x01" + "\x02\x00" + "\x00\x00\x02\x00" + "\x02\x01\x00\x10" +
		"\x04\x00none" + "\x00" + "\x00\x00" +
		"\x01\x00x" + "\x01" + "\x00\x00" +
		"\x01\x00y" + "\x00" + "\x01\x00" + "\xff\x0f\x00\x10" +
		"\x0a\x00\x00\x00" + "\x02\x00\x01\x00" + "\x03\x00\x00\x00" + "\x01\x00\x02\x01" + "\x02\x00\xff\xff" + "\x01\x00\x02\x01" + "\x01\x00\x00\x00"
	checkPut(t, "the small one", small(), []byte(wanted))
	checkPut(t, "the zero Meta", api.Meta{}, make([]byte, 13))
	checkPut(t, "empty lists", api.Meta{T: leaves(), Shots: []api.Shot{}, Maps: []api.Bitmap{}, Counts: []int{}}, make([]byte, 13))
}

// 14.2
func TestPutOfMetas(t *testing.T) {
	for i, m := range append(metas(), large()) {
		checkPut(t, fmt.Sprint("meta ", i), m, bytesOf(m))
	}
	random := rand.New(rand.NewSource(142))
	for range 500 {
		m := someMeta(random)
		checkPut(t, "any meta", m, bytesOf(m))
	}
}

// 14.2
func TestPutRuns(t *testing.T) {
	head := make([]byte, 9)
	for _, c := range []struct {
		counts []int
		runs   []run
	}{
		{nil, nil}, {[]int{7}, []run{{1, 7}}}, {[]int{0}, []run{{1, 0}}}, {[]int{7, 7}, []run{{2, 7}}}, {[]int{7, 8}, []run{{1, 7}, {1, 8}}}, {[]int{7, 8, 7}, []run{{1, 7}, {1, 8}, {1, 7}}},
		{[]int{0, 0, 0, 65535, 65535, 256, 0}, []run{{3, 0}, {2, 65535}, {1, 256}, {1, 0}}},
		{same(65534, 258), []run{{65534, 258}}}, {same(65535, 258), []run{{65535, 258}}}, {same(65536, 258), []run{{65535, 258}, {1, 258}}}, {same(65536, 0), []run{{65535, 0}, {1, 0}}},
		{append(same(65535, 1), 2), []run{{65535, 1}, {1, 2}}}, {append([]int{2}, same(65535, 1)...), []run{{1, 2}, {65535, 1}}}, {append([]int{1, 2}, same(65534, 1)...), []run{{1, 1}, {1, 2}, {65534, 1}}},
		{slices.Concat(same(255, 1), same(256, 2), same(257, 3)), []run{{255, 1}, {256, 2}, {257, 3}}},
	} {
		checkPut(t, fmt.Sprint("runs ", c.runs), api.Meta{Counts: c.counts}, append(head[:9:9], runBytes(len(c.counts), c.runs...)...))
	}
	b, errno := Put(api.Meta{Counts: unlike(65536)})
	want(t, "the error", errno, api.OK)
	want(t, "the bytes of runs of one", len(b), 13+4*65536)
	want(t, "the last one", b[len(b)-8:], []byte{1, 0, 0, 0, 1, 0, 255, 255})
}

// 14.2: no valid meta has an encoding of more bytes than this one, which is not too long.
func TestPutOfTheLongestEncoding(t *testing.T) {
	b, errno := Put(large())
	want(t, "the error", errno, api.OK)
	want(t, "its bytes", len(b), 1+2+18+(2+512*130)+1+8*(18+2+2+512*130)+1+8*(18+1+2+2048*4)+4+65536*4)
	want(t, "whether a blob can have them", len(b) <= api.MaxBlob, true)
}

// 14.2: what is not valid is refused as such, and not as too long.
func TestPutOfWhatIsNotValidAndLong(t *testing.T) {
	for _, m := range []api.Meta{{Counts: unlike(1 << 18)}, {Shots: make([]api.Shot, 1<<18)}, {Maps: []api.Bitmap{on("m", make([]api.Span, 1<<18)...)}}, {Back: strings.Repeat("a", 1<<20+1)}} {
		checkNotRight(t, "a long one", m)
	}
}

// 14.2: an encoding of MaxBlob bytes is not too long, one of a byte more is.
func TestLengthOfBlobs(t *testing.T) {
	for _, n := range []int{0, 1, 1<<20 - 1, 1 << 20} {
		b, errno := blobOf(make([]byte, n))
		want(t, "the error", errno, api.OK)
		want(t, "the bytes", len(b), n)
	}
	for _, n := range []int{1<<20 + 1, 1<<20 + 2, 1 << 21} {
		b, errno := blobOf(make([]byte, n))
		want(t, "the error", errno, api.ErrLong)
		want(t, "whether there are bytes", b != nil, false)
	}
}
