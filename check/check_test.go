package check

import (
	"bytes"
	"fmt"
	"math"
	"math/rand"
	"slices"
	"sync"
	"testing"

	"matryoshka/api"
	"matryoshka/count"
	"matryoshka/crc"
	"matryoshka/lz"
)

func want[T any](t *testing.T, what string, got, wanted T) {
	t.Helper()
	if g, w := fmt.Sprintf("%+v", got), fmt.Sprintf("%+v", wanted); g != w {
		t.Fatalf("%s: %.2000s, want %.2000s", what, g, w)
	}
}

var zero = api.Entry{Kind: api.EntryZero}

// farNumbers are those that are no number of anything.
var farNumbers = []int{math.MinInt, math.MinInt + 1, math.MinInt + 64, -1 << 32, -65536, -64, -1, 1<<16 + 1, 1 << 20, 1 << 32, 1<<32 + 2, 1 << 60, 1 << 62, math.MaxInt - 63, math.MaxInt - 1, math.MaxInt}

// fileOf has so many sectors, each of whose bytes are unlike those of its neighbours.
func fileOf(sectors int) []byte {
	b := make([]byte, sectors*16)
	for i := range b {
		b[i] = byte(i/16*37 + i%16*11 + i/4096)
	}
	return b
}

// raw is the entry of a file's sectors as they stand there; no sum is wanted of those that do not.
func raw(file []byte, start, count int) api.Entry {
	e := api.Entry{Kind: api.EntryRaw, Start: start, Count: count}
	if (start+count)*16 <= len(file) {
		e.Sum = crc.Sum(file[start*16 : (start+count)*16])
	}
	return e
}

// lengthBytes are those that follow a half of a token, which holds up to 15 of n.
func lengthBytes(n int) []byte {
	if n < 15 {
		return nil
	}
	return append(bytes.Repeat([]byte{255}, (n-15)/255), byte((n-15)%255))
}

// literal is compressed data that tell all bytes of b as they are.
func literal(b []byte) []byte {
	return slices.Concat([]byte{byte(min(len(b), 15) << 4)}, lengthBytes(len(b)), b)
}

// repeated is compressed data that tell x n times: so many literals, and a copy of the others, which are at least 4.
func repeated(x byte, n, literals int) []byte {
	copied := n - literals - 4
	token := byte(min(literals, 15)<<4 + min(copied, 15))
	return slices.Concat([]byte{token}, lengthBytes(literals), bytes.Repeat([]byte{x}, literals), []byte{1, 0}, lengthBytes(copied))
}

// packed puts compressed data into a file, and is the entry of it; contents are what they are said to tell.
func packed(file []byte, start int, data, contents []byte) api.Entry {
	copy(file[start*16:], data)
	return api.Entry{Kind: api.EntryPacked, Start: start, Count: (len(data) + 15) / 16, Size: len(data), Sum: crc.Sum(contents)}
}

// leafOf has these entries and then EntryNone, up to eight of them.
func leafOf(first ...api.Entry) []api.Entry {
	return append(slices.Clone(first), make([]api.Entry, 8-len(first))...)
}

// tableOf has these entries, in leaves of eight; a leaf without any is absent.
func tableOf(entries ...api.Entry) api.Table {
	var t api.Table
	for chunk := range slices.Chunk(entries, 8) {
		leaf := leafOf(chunk...)
		if !slices.ContainsFunc(leaf, func(e api.Entry) bool { return e.Kind > 0 }) {
			leaf = nil
		}
		t.L = append(t.L, leaf)
	}
	return t
}

// image is a meta whose counts are those that it should have by all of its entries.
func image(cluster, sectors int, own []api.Entry, shots ...[]api.Entry) api.Meta {
	m := api.Meta{Cluster: cluster, Size: 64, T: tableOf(own...)}
	for i, entries := range shots {
		m.Shots = append(m.Shots, api.Shot{Name: fmt.Sprint("s", i), Size: 64, T: tableOf(entries...)})
	}
	m.Counts = count.Of(m, sectors)
	return m
}

func faults(l ...api.Fault) []api.Fault {
	return l
}

func bad(at, shot int) api.Fault {
	return api.Fault{Kind: 1, At: at, Shot: shot}
}

func low(at int) api.Fault {
	return api.Fault{Kind: 2, At: at}
}

func high(at int) api.Fault {
	return api.Fault{Kind: 3, At: at}
}

// modelBytes is what 15.1 says of an entry that is valid.
func modelBytes(e api.Entry, file []byte, cluster int) ([]byte, api.Errno) {
	contents := make([]byte, 16<<cluster)
	if e.Kind < 2 {
		return contents, api.OK
	}
	for sector := e.Start; sector < e.Start+e.Count; sector++ {
		if sector*16+16 > len(file) || sector >= 65536 {
			return nil, api.ErrRange
		}
	}
	if e.Kind == 2 {
		copy(contents, file[e.Start*16:])
	} else if out, errno := lz.Unpack(file[e.Start*16:e.Start*16+e.Size], 1<<20); errno != api.OK || len(out) != len(contents) {
		return nil, api.ErrSum
	} else {
		contents = out
	}
	if crc.Sum(contents) != e.Sum {
		return nil, api.ErrSum
	}
	return contents, api.OK
}

// shares tells whether two entries have a sector in common.
func shares(a, b api.Entry) bool {
	for sector := a.Start; sector < a.Start+a.Count; sector++ {
		if b.Start <= sector && sector < b.Start+b.Count {
			return true
		}
	}
	return false
}

// modelLines are the lines of a meta that are not bad, and those that are.
func modelLines(m api.Meta, file []byte) (good, bad []api.Line) {
	for _, line := range count.Each(m) {
		_, errno := modelBytes(line.E, file, m.Cluster)
		isBad := errno != api.OK || slices.ContainsFunc(good, func(other api.Line) bool {
			return shares(line.E, other.E) && (line.E.Start != other.E.Start || line.E.Count != other.E.Count)
		})
		if isBad {
			bad = append(bad, line)
		} else {
			good = append(good, line)
		}
	}
	return good, bad
}

// modelCounts are the counts of a file's sectors by the lines that are not bad.
func modelCounts(good []api.Line, file []byte) []int {
	counts := make([]int, min(len(file)/16, 65536))
	for sector := range min(2, len(counts)) {
		counts[sector] = 1
	}
	for _, line := range good {
		for sector := line.E.Start; sector < line.E.Start+line.E.Count; sector++ {
			counts[sector]++
		}
	}
	return counts
}

// modelFaults is what 15.2 says of a meta that is valid.
func modelFaults(m api.Meta, file []byte) []api.Fault {
	var out []api.Fault
	good, bad := modelLines(m, file)
	for _, line := range bad {
		out = append(out, api.Fault{Kind: 1, At: line.Cluster, Shot: line.Shot})
	}
	wanted := modelCounts(good, file)
	for sector := 0; sector < len(wanted) || sector < len(m.Counts); sector++ {
		difference := 0
		if sector < len(m.Counts) {
			difference = m.Counts[sector]
		}
		if sector < len(wanted) {
			difference -= wanted[sector]
		}
		if difference < 0 {
			out = append(out, api.Fault{Kind: 2, At: sector})
		} else if difference > 0 {
			out = append(out, api.Fault{Kind: 3, At: sector})
		}
	}
	return out
}

// someFile is a small file of any sectors, in some of which there are compressed data; the entries of them are told too.
func someFile(random *rand.Rand, cluster int) ([]byte, []api.Entry) {
	file := make([]byte, random.Intn(30*16))
	for i := range file {
		file[i] = byte(random.Intn(3))
	}
	var entries []api.Entry
	for range random.Intn(6) {
		contents := bytes.Repeat([]byte{byte(random.Intn(4))}, 16<<cluster)
		if data := lz.Pack(contents); random.Intn(3) > 0 {
			start := 2 + random.Intn(28)
			if data = append(data, make([]byte, random.Intn(2))...); (start+1)*16 <= len(file) && len(data) <= 16 && cluster > 0 {
				entries = append(entries, packed(file, start, data, contents))
			}
		}
	}
	return file, entries
}

// someEntries are up to 16 entries over a small file, not all of which are good ones.
func someEntries(random *rand.Rand, file []byte, cluster int, known []api.Entry) []api.Entry {
	var l []api.Entry
	for range random.Intn(16) {
		e := raw(file, 2+random.Intn(12)*(1+random.Intn(3)), 1<<cluster)
		switch random.Intn(9) {
		case 0:
			e = api.Entry{}
		case 1:
			e = zero
		case 2:
			e.Sum++
		case 3, 4, 5:
			if len(known) > 0 {
				e = known[random.Intn(len(known))]
			}
		}
		l = append(l, e)
	}
	return append(l, zero)
}

// someImage is any meta over a small file, and the file.
func someImage(random *rand.Rand) (api.Meta, []byte) {
	cluster := random.Intn(3)
	file, known := someFile(random, cluster)
	m := api.Meta{Cluster: cluster, Size: 64, T: tableOf(someEntries(random, file, cluster, known)...)}
	for k := range random.Intn(3) {
		m.Shots = append(m.Shots, api.Shot{Name: fmt.Sprint("s", k), Size: 64, T: tableOf(someEntries(random, file, cluster, known)...)})
	}
	m.Counts = count.Of(m, max(0, len(file)/16+random.Intn(5)-2))
	for range random.Intn(3) {
		if len(m.Counts) > 0 {
			m.Counts[random.Intn(len(m.Counts))] = random.Intn(4)
		}
	}
	return m, file
}

// R1 and R5: the same calls have the same results, whatever runs beside them.
func TestCallsShareNothing(t *testing.T) {
	random := rand.New(rand.NewSource(1))
	type given struct {
		m    api.Meta
		file []byte
	}
	var all []given
	for range 40 {
		m, file := someImage(random)
		all = append(all, given{m, file})
	}
	told := func(x given) string {
		b, errno := Bytes(x.m.T.L[0][0], x.file, x.m.Cluster)
		m, other := Mend(x.m, x.file)
		return fmt.Sprint(b, errno, Faults(x.m, x.file), m, other)
	}
	var wanted []string
	for _, x := range all {
		wanted = append(wanted, told(x))
	}
	var calls sync.WaitGroup
	for range 8 {
		calls.Go(func() {
			for i, x := range all {
				if told(x) != wanted[i] {
					t.Errorf("another result for %d", i)
				}
			}
		})
	}
	calls.Wait()
}

// 15: the example.
func TestExample(t *testing.T) {
	file := fileOf(4)
	m := image(0, 4, []api.Entry{raw(file, 2, 1), raw(file, 9, 1)})
	want(t, "the faults", Faults(m, file), faults(bad(1, -1)))
	mended, errno := Mend(m, file)
	want(t, "the error", errno, api.OK)
	want(t, "the table", mended.T, tableOf(raw(file, 2, 1), zero))
	want(t, "the faults of what was mended", Faults(mended, file), nil)
}
