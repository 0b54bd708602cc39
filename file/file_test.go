package file

import (
	"bytes"
	"fmt"
	"math"
	"math/rand"
	"slices"
	"strings"
	"sync"
	"testing"

	"matryoshka/api"
	"matryoshka/crc"
	"matryoshka/disk"
	"matryoshka/meta"
	"matryoshka/slot"
)

func want[T any](t *testing.T, what string, got, wanted T) {
	t.Helper()
	if g, w := fmt.Sprintf("%+v", got), fmt.Sprintf("%+v", wanted); g != w {
		t.Fatalf("%s: %.2000s, want %.2000s", what, g, w)
	}
}

const (
	most = api.MaxFile
	room = 200000 // of a disk that is large enough
)

// farNumbers are those that are no number of anything.
var farNumbers = []int{math.MinInt, math.MinInt + 1, math.MinInt + 64, -1 << 32, -65536, -64, -1, 1<<16 + 1, 1 << 20, 1<<31 + 1, 1 << 32, 1<<32 + 2, 1 << 60, 1 << 62, math.MaxInt - 63, math.MaxInt - 1, math.MaxInt}

var (
	none  = api.Slot{}
	empty = api.Meta{}
	zero  = api.Entry{Kind: api.EntryZero}
)

func raw(start, count int) api.Entry {
	return api.Entry{Kind: api.EntryRaw, Start: start, Count: count, Sum: uint32(start) * 0x01020305}
}

func packed(start, count int) api.Entry {
	return api.Entry{Kind: api.EntryPacked, Start: start, Count: count, Size: count*16 - 3, Sum: math.MaxUint32}
}

// tableOf has these entries, in leaves of eight; a leaf without any is absent.
func tableOf(entries ...api.Entry) api.Table {
	var t api.Table
	for chunk := range slices.Chunk(entries, 8) {
		leaf := append(slices.Clone(chunk), make([]api.Entry, 8-len(chunk))...)
		if !slices.ContainsFunc(leaf, func(e api.Entry) bool { return e.Kind > 0 }) {
			leaf = nil
		}
		t.L = append(t.L, leaf)
	}
	return t
}

// image is a meta with these entries of its own, and with those of its shots.
func image(cluster int, own []api.Entry, shots ...[]api.Entry) api.Meta {
	m := api.Meta{Cluster: cluster, Size: 4096, T: tableOf(own...)}
	for i, entries := range shots {
		m.Shots = append(m.Shots, api.Shot{Name: fmt.Sprint("s", i), Size: 4096, T: tableOf(entries...)})
	}
	return m
}

// at is an image of clusters of one sector, with an entry for each of these sectors.
func at(sectors ...int) api.Meta {
	var own []api.Entry
	for _, sector := range sectors {
		own = append(own, raw(sector, 1))
	}
	return image(0, own)
}

// sized is an image whose encoding without its counts has so many bytes, at least 19.
func sized(bytes int) api.Meta {
	m := api.Meta{Size: 7, Maps: []api.Bitmap{{Name: "m"}}}
	more := bytes - 19
	for ; more > 16; more -= 4 {
		m.Maps[0].L = append(m.Maps[0].L, api.Span{From: 2 * len(m.Maps[0].L), To: 2*len(m.Maps[0].L) + 1})
	}
	m.Back = strings.Repeat("b", more)
	return m
}

// everything is an image that has every part, in sectors below 30.
func everything() api.Meta {
	m := image(1, []api.Entry{raw(8, 2), {}, zero, packed(10, 1), raw(8, 2)}, []api.Entry{{}, {}, raw(12, 2)}, nil, []api.Entry{packed(27, 1), raw(28, 2)})
	m.Back = "base"
	m.Maps = []api.Bitmap{{Name: "a", On: true, L: []api.Span{{From: 2, To: 4}, {From: 9, To: 4096}}}, {Name: "b"}}
	return m
}

// with is m with counts.
func with(m api.Meta, counts ...int) api.Meta {
	m.Counts = counts
	return m
}

// pattern is so many sectors, of which none is a slot, and each of whose bytes are unlike those of its neighbours.
func pattern(sectors int) []byte {
	b := make([]byte, sectors*16)
	for i := range b {
		b[i] = byte(i/16*37+i%16*11+i/4096) | 0x81
	}
	return b
}

// diskOf has one file, f, with these bytes, which are durable.
func diskOf(t *testing.T, contents []byte) *disk.Disk {
	t.Helper()
	d, _ := disk.New(room)
	want(t, "the error of Create", d.Create("f"), api.OK)
	want(t, "the error of Write", d.Write("f", 0, contents), api.OK)
	d.Flush("f")
	return d
}

// bytesOf are all bytes of a file.
func bytesOf(t *testing.T, d *disk.Disk, name string) []byte {
	t.Helper()
	size, errno := d.Size(name)
	want(t, "the error of Size", errno, api.OK)
	b, errno := d.Read(name, 0, size)
	want(t, "the error of Read", errno, api.OK)
	return b
}

// checkBytes is that f has these bytes.
func checkBytes(t *testing.T, what string, d *disk.Disk, wanted []byte) {
	t.Helper()
	got := bytesOf(t, d, "f")
	if bytes.Equal(got, wanted) {
		return
	}
	want(t, what+": the length", len(got), len(wanted))
	for sector := range len(got) / 16 {
		want(t, fmt.Sprintf("%s: sector %d", what, sector), got[sector*16:sector*16+16], wanted[sector*16:sector*16+16])
	}
}

// checkSave is that Save does what the model does.
func checkSave(t *testing.T, what string, d *disk.Disk, m api.Meta, last api.Slot, kept []int) api.Slot {
	t.Helper()
	before := bytesOf(t, d, "f")
	wanted, after, fails := modelSave(before, m, last, kept)
	got, errno := Save(d, "f", m, last, kept)
	want(t, what+": the error", errno, fails)
	want(t, what+": the slot", got, wanted)
	checkBytes(t, what, d, after)
	return got
}

// checkLoad is that Load returns this state.
func checkLoad(t *testing.T, what string, d *disk.Disk, m api.Meta, s api.Slot) {
	t.Helper()
	got, located, errno := Load(d, "f")
	want(t, what+": the error", errno, api.OK)
	want(t, what+": the slot", located, s)
	want(t, what+": the meta", got, m)
}

// checkNoLoad is that Load returns an error, and nothing beside it.
func checkNoLoad(t *testing.T, what string, d *disk.Disk, name string, wanted api.Errno) {
	t.Helper()
	m, s, errno := Load(d, name)
	want(t, what+": the error", errno, wanted)
	want(t, what+": what is beside it", fmt.Sprint(m, s), fmt.Sprint(empty, none))
}

// loaded tells all that Load returns.
func loaded(d *disk.Disk) string {
	m, s, errno := Load(d, "f")
	return fmt.Sprintf("%+v %+v %d", m, s, errno)
}

// modelCounts are those of 9.2, for an image that is valid.
func modelCounts(m api.Meta, size int) []int {
	counts := make([]int, size)
	copy(counts, []int{1, 1})
	for _, line := range linesOf(m) {
		for sector := line.Start; sector < min(line.Start+line.Count, size); sector++ {
			counts[sector]++
		}
	}
	return counts
}

// linesOf are the entries of all tables that occupy sectors.
func linesOf(m api.Meta) []api.Entry {
	all := slices.Concat(m.T.L...)
	for _, shot := range m.Shots {
		all = append(all, slices.Concat(shot.T.L...)...)
	}
	return slices.DeleteFunc(all, func(e api.Entry) bool { return e.Kind < 2 })
}

// modelEnd is a sector from which on nothing stands in any.
func modelEnd(m api.Meta, last api.Slot, kept []int) int {
	end := max(3, len(kept))
	for _, e := range linesOf(m) {
		end = max(end, e.Start+e.Count)
	}
	if last.Seq != 0 && last.Start < most && last.Count > 0 {
		end = max(end, last.Start+min(last.Count, 1<<40)/16+1)
	}
	return min(end, most)
}

// modelLengths are the bytes of the blob of a valid image for each size up to one, by 14.2: a run of counts adds 4.
func modelLengths(m api.Meta, size int) []int {
	b, _ := meta.Put(with(m))
	lengths, run := make([]int, size+1), 0
	lengths[0] = len(b)
	counts := modelCounts(m, size)
	for i, n := range counts {
		lengths[i+1] = lengths[i]
		if i == 0 || n != counts[i-1] || run == 65535 {
			lengths[i+1], run = lengths[i]+4, 0
		}
		run++
	}
	return lengths
}

// modelFree tells of each sector below an end whether it is free, by the words of 16.2.
func modelFree(m api.Meta, last api.Slot, kept []int, end int) []bool {
	free := make([]bool, end)
	for sector, n := range modelCounts(m, end) {
		free[sector] = sector >= 2 && n == 0 && !(sector < len(kept) && kept[sector] != 0)
		if last.Seq != 0 && last.Count > 0 && sector >= last.Start {
			// Differences of any two numbers are right where no number is below 0.
			behind, sectors := uint64(sector)-uint64(last.Start), (uint64(last.Count)+15)/16
			free[sector] = free[sector] && behind >= sectors
		}
	}
	return free
}

// modelPlace is the procedure of 16.2, word by word; n is how many sectors the blob has. From its end on all sectors are
// free, and have the count 0.
func modelPlace(m api.Meta, size int, last api.Slot, kept []int) (s, n int, ok bool) {
	end := modelEnd(m, last, kept)
	lengths, free := modelLengths(m, min(end+1, most)), modelFree(m, last, kept, end)
	needs := func(s, n int) int {
		return (lengths[min(max(size, s+n), most, len(lengths)-1)] + 15) / 16
	}
	for s := 2; s < most; s++ {
		n := 1
		for needs(s, n) > n {
			n = needs(s, n)
		}
		if s+n <= most && !slices.Contains(free[min(s, end):min(s+n, end)], false) {
			return s, n, true
		}
	}
	return 0, 0, false
}

// modelSlots are the slots of a file, the newest one first.
func modelSlots(contents []byte) []api.Slot {
	if len(contents) < 32 {
		return nil
	}
	var l []api.Slot
	for sector := range 2 {
		s, errno := slot.Get(contents[sector*16 : sector*16+16])
		if errno != api.OK {
			continue
		}
		if len(l) == 1 && s.Seq > l[0].Seq {
			l = append([]api.Slot{s}, l...)
		} else {
			l = append(l, s)
		}
	}
	return l
}

// modelSave is the new slot of 16.2, and all bytes of the file then.
func modelSave(contents []byte, m api.Meta, last api.Slot, kept []int) (api.Slot, []byte, api.Errno) {
	if !meta.Right(with(m)) {
		return none, contents, api.ErrArg
	}
	seq := last.Seq
	for _, s := range modelSlots(contents) {
		seq = max(seq, s.Seq)
	}
	if seq >= 1<<31 {
		return none, contents, api.ErrArg
	}
	size := len(contents) / 16
	start, n, ok := modelPlace(m, size, last, kept)
	if !ok {
		return none, contents, api.ErrSpace
	}
	m.Counts = modelCounts(m, max(size, start+n))
	blob, _ := meta.Put(m)
	s := api.Slot{Seq: seq + 1, Start: start, Count: len(blob), Sum: crc.Sum(blob)}
	encoded, _ := slot.Put(s)
	after := append(slices.Clone(contents), make([]byte, max(0, (start+n)*16-len(contents)))...)
	clear(after[start*16 : (start+n)*16])
	copy(after[start*16:], blob)
	if s.Seq%2 == 1 {
		copy(after, encoded)
	} else {
		copy(after[16:], encoded)
	}
	return s, after, api.OK
}

// modelUsable is the meta that a slot locates, if the slot is usable by the words of 16.1.
func modelUsable(contents []byte, s api.Slot) (api.Meta, bool) {
	if s.Start*16+s.Count > len(contents) {
		return empty, false
	}
	blob := contents[s.Start*16 : s.Start*16+s.Count]
	m, errno := meta.Get(blob)
	if errno != api.OK || crc.Sum(blob) != s.Sum {
		return empty, false
	}
	return m, !slices.ContainsFunc(linesOf(m), func(e api.Entry) bool { return (e.Start+e.Count)*16 > len(contents) })
}

// modelLoad is the state of 16.1.
func modelLoad(contents []byte) (api.Meta, api.Slot, api.Errno) {
	for _, s := range modelSlots(contents) {
		if m, ok := modelUsable(contents, s); ok {
			return m, s, api.OK
		}
	}
	return empty, none, api.ErrForm
}

// anyImage is an image with entries in the sectors below another one.
func anyImage(r *rand.Rand, below int) api.Meta {
	cluster := r.Intn(3)
	entries := func() []api.Entry {
		var l []api.Entry
		for range r.Intn(12) {
			switch count := 1 << cluster; r.Intn(4) {
			case 0:
				l = append(l, api.Entry{Kind: r.Intn(2)})
			case 1:
				if count > 1 {
					count = 1 + r.Intn(count-1)
					l = append(l, packed(2+r.Intn(below-count-1), count))
				}
			default:
				l = append(l, raw(2+r.Intn(below-count-1), count))
			}
		}
		// A table doesn't end with a leaf that is absent.
		return append(l, zero)
	}
	var shots [][]api.Entry
	for range r.Intn(4) {
		shots = append(shots, entries())
	}
	m := image(cluster, entries(), shots...)
	m.Back = strings.Repeat("b", r.Intn(17))
	if r.Intn(2) == 0 {
		m.Maps = sized(19 + r.Intn(60)).Maps
	}
	return m
}

// The model itself: the lengths of blobs are those of meta.Put.
func TestLengthsOfTheModel(t *testing.T) {
	r := rand.New(rand.NewSource(1))
	for range 20 {
		m := anyImage(r, 100)
		lengths := modelLengths(m, most)
		for _, size := range []int{0, 1, 2, 3, 4, 10, 20, 30, 50, 99, 100, 101, 500, 65534, 65535, 65536} {
			b, errno := meta.Put(with(m, modelCounts(m, size)...))
			want(t, "the error", errno, api.OK)
			want(t, "the length", lengths[size], len(b))
		}
	}
	for bytes := 19; bytes < 200; bytes++ {
		b, errno := meta.Put(sized(bytes))
		want(t, "the error", errno, api.OK)
		want(t, "the length", len(b), bytes)
	}
}

// R1, R5: calls on disks of their own share nothing.
func TestCallsShareNothing(t *testing.T) {
	run := func(seed int64) string {
		r := rand.New(rand.NewSource(seed))
		d, _ := disk.New(room)
		d.Create("f")
		told, last := "", none
		for range 20 {
			m := anyImage(r, 40)
			s, errno := Save(d, "f", m, last, []int{9: 1, 12: r.Intn(2)})
			d.Write("f", 50, make([]byte, 16))
			told += fmt.Sprintln(s, errno, loaded(d))
			last = s
		}
		return told
	}
	var group sync.WaitGroup
	told := make([]string, 8)
	for i := range told {
		group.Go(func() { told[i] = run(int64(i % 4)) })
	}
	group.Wait()
	for i := range told {
		want(t, "what was told", told[i], run(int64(i%4)))
	}
}

// The chapter's example.
func TestExample(t *testing.T) {
	d := diskOf(t, make([]byte, 32))
	s, errno := Save(d, "f", api.Meta{Size: 4}, none, nil)
	want(t, "the error", errno, api.OK)
	blob, _ := meta.Put(with(api.Meta{Size: 4}, 1, 1, 0, 0))
	want(t, "the slot", s, api.Slot{Seq: 1, Start: 2, Count: 21, Sum: crc.Sum(blob)})
	encoded, _ := slot.Put(s)
	checkBytes(t, "the file", d, slices.Concat(encoded, make([]byte, 16), blob, make([]byte, 11)))
	checkLoad(t, "the state", d, with(api.Meta{Size: 4}, 1, 1, 0, 0), s)
}
