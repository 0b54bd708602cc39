package check

import (
	"bytes"
	"fmt"
	"math/rand"
	"reflect"
	"slices"
	"strings"
	"testing"

	"matryoshka/api"
	"matryoshka/count"
)

// checkFaults is that an image has these faults, and, what 15.4 says, none behind Mend.
func checkFaults(t *testing.T, what string, m api.Meta, file []byte, wanted []api.Fault) {
	t.Helper()
	want(t, what, Faults(m, file), wanted)
	want(t, what+", by the model", modelFaults(m, file), wanted)
	checkMended(t, what, m, file)
}

// invalidMetas are metas that are not valid, and would have faults otherwise.
func invalidMetas() []api.Meta {
	file := fileOf(8)
	var all []api.Meta
	for _, change := range []func(m *api.Meta){
		func(m *api.Meta) { m.Cluster = 7 },
		func(m *api.Meta) { m.Cluster = -1 },
		func(m *api.Meta) { m.Cluster = 1 },
		func(m *api.Meta) { m.Size = 0 },
		func(m *api.Meta) { m.Size = -1 },
		func(m *api.Meta) { m.Size = 4097 },
		func(m *api.Meta) { m.Back = "A" },
		func(m *api.Meta) { m.T.L = append(m.T.L, nil) },
		func(m *api.Meta) { m.T.L[0] = m.T.L[0][:7] },
		func(m *api.Meta) { m.T.L[0][3].Start = -9 },
		func(m *api.Meta) { m.T.L[0][3] = api.Entry{Kind: 2, Start: 1, Count: 1} },
		func(m *api.Meta) { m.T.L[0][3] = api.Entry{Kind: 2, Start: 1 << 62, Count: 1 << 62} },
		func(m *api.Meta) { m.Shots[0].Name = "" },
		func(m *api.Meta) { m.Shots = append(m.Shots, m.Shots[0]) },
		func(m *api.Meta) { m.Shots[0].Size = 0 },
		func(m *api.Meta) { m.Shots[0].T.L[0][0].Count = 2 },
		func(m *api.Meta) { m.Maps = []api.Bitmap{{Name: "b"}, {Name: "b"}} },
		func(m *api.Meta) { m.Maps = make([]api.Bitmap, 9) },
		func(m *api.Meta) { m.Counts[0] = -1 },
		func(m *api.Meta) { m.Counts[7] = 65536 },
		func(m *api.Meta) { m.Counts = make([]int, 65537) },
	} {
		m := image(0, 8, []api.Entry{raw(file, 2, 1), raw(file, 9, 1)}, []api.Entry{raw(file, 3, 1)})
		change(&m)
		all = append(all, m)
	}
	return all
}

// 15.2, 15.3: a meta that is not valid has no faults, and can't be mended.
func TestFaultsOfMetasThatAreNotValid(t *testing.T) {
	for i, m := range invalidMetas() {
		for _, file := range [][]byte{nil, fileOf(8)} {
			if l := Faults(m, file); len(l) != 0 {
				t.Error("faults of", i, l)
			}
			x, errno := Mend(m, file)
			if errno != api.ErrArg || !reflect.DeepEqual(x, api.Meta{}) {
				t.Error("mended:", i, errno, x)
			}
		}
	}
}

// 15.2
func TestNoFaults(t *testing.T) {
	file := fileOf(40)
	contents := bytes.Repeat([]byte{8}, 32)
	p := packed(file, 30, repeated(8, 32, 1), contents)
	checkFaults(t, "the zero Meta", api.Meta{}, nil, nil)
	checkFaults(t, "no entry", image(0, 4, nil), fileOf(4), nil)
	checkFaults(t, "EntryZero alone", image(0, 4, []api.Entry{zero}), fileOf(4), nil)
	checkFaults(t, "entries", image(1, 40, []api.Entry{raw(file, 2, 2), p, zero, {}, raw(file, 38, 2)}), file, nil)
	checkFaults(t, "shots", image(1, 40, []api.Entry{raw(file, 2, 2), p}, []api.Entry{p, {}, p}, []api.Entry{{}, raw(file, 2, 2), raw(file, 4, 2)}), file, nil)
	for cluster := range 7 {
		m := image(cluster, 40+2<<cluster, []api.Entry{zero})
		big := fileOf(40 + 2<<cluster)
		m.Size, m.T = 4096, tableOf(raw(big, 2, 1<<cluster), raw(big, 40, 1<<cluster), raw(big, 40+1<<cluster, 1<<cluster))
		if cluster < 6 {
			m.T.L[0][0] = zero
		} else {
			m.T.L[0][1], m.T.L[0][2] = zero, raw(big, 66, 64)
		}
		m.Counts = count.Of(m, len(big)/16)
		checkFaults(t, fmt.Sprint("clusters of ", 1<<cluster), m, big, nil)
	}
}

// 15.2 with 15.1: each reason for which Bytes returns an error of a valid entry is a fault; nothing else of it is told.
func TestEachReasonIsAFault(t *testing.T) {
	file := fileOf(20)
	contents := bytes.Repeat([]byte{8}, 32)
	good := packed(file, 10, repeated(8, 32, 1), contents)
	wrongSum, wrongPacked, short := raw(file, 4, 2), good, good
	wrongSum.Sum++
	wrongPacked.Sum--
	short.Size--
	for i, e := range []api.Entry{
		wrongSum, wrongPacked, short, raw(file, 19, 2), raw(file, 20, 2), {Kind: 2, Start: 65534, Count: 2}, {Kind: 3, Start: 20, Count: 1, Size: 1},
		packed(file, 12, repeated(8, 31, 1), contents), packed(file, 13, repeated(8, 33, 1), contents), packed(file, 14, []byte{0xf0, 9}, contents),
	} {
		what := fmt.Sprint("reason ", i)
		m := image(1, 20, []api.Entry{good, {}, e, zero}, []api.Entry{good}, []api.Entry{zero, zero, zero, zero, zero, zero, zero, zero, good, e})
		m.Counts = count.Of(image(1, 20, []api.Entry{good, good, good}), 20)
		checkFaults(t, what, m, file, faults(bad(2, -1), bad(9, 1)))
		checkFaults(t, what+" without counts", withCounts(m), file, faults(bad(2, -1), bad(9, 1), low(0), low(1), low(10)))
		checkFaults(t, what+" alone", image(1, 0, []api.Entry{e}), nil, faults(bad(0, -1)))
	}
}

func withCounts(m api.Meta, counts ...int) api.Meta {
	m.Counts = counts
	return m
}

// goodCounts is m with the counts that it should have.
func goodCounts(m api.Meta, file []byte) api.Meta {
	good, _ := modelLines(m, file)
	m.Counts = modelCounts(good, file)
	return m
}

// 15.2: the first of two entries that share sectors is good, the second one bad, unless they are alike.
func TestEntriesThatShareSectors(t *testing.T) {
	file := fileOf(24)
	contents := bytes.Repeat([]byte{8}, 64)
	// Behind data that tell all of a cluster there may stand one token that tells nothing.
	long := packed(file, 10, append(repeated(8, 64, 12), 0), contents)
	short, small, smallToo := long, packed(file, 12, append(repeated(8, 64, 1), 0), contents), api.Entry{}
	short.Count, short.Size = 1, 16
	want(t, "the long one", []int{long.Count, long.Size}, []int{2, 17})
	smallToo = small
	smallToo.Size--
	r := func(start int) api.Entry { return raw(file, start, 4) }
	for _, c := range []struct {
		what   string
		own    []api.Entry
		wanted []api.Fault
	}{
		{"alike", []api.Entry{r(4), r(4), zero, r(4)}, nil},
		{"one beside another", []api.Entry{r(4), r(8), r(12), r(16), r(20)}, nil},
		{"one ahead of another", []api.Entry{r(8), r(4)}, nil},
		{"the last sector", []api.Entry{r(4), r(7)}, faults(bad(1, -1))},
		{"the first sector", []api.Entry{r(7), r(4)}, faults(bad(1, -1))},
		{"all but one", []api.Entry{r(4), r(5)}, faults(bad(1, -1))},
		{"both", []api.Entry{r(4), r(8), r(6)}, faults(bad(2, -1))},
		{"two of them", []api.Entry{r(6), r(4), r(8)}, faults(bad(1, -1), bad(2, -1))},
		{"with a bad one alone", []api.Entry{r(4), r(6), r(9)}, faults(bad(1, -1))},
		{"like a bad one", []api.Entry{r(4), r(6), r(6)}, faults(bad(1, -1), bad(2, -1))},
		{"a chain", []api.Entry{r(2), r(5), r(8), r(11), r(14)}, faults(bad(1, -1), bad(3, -1))},
		{"alike behind a bad one", []api.Entry{r(4), r(6), r(4)}, faults(bad(1, -1))},
		{"bad for its sum", []api.Entry{{Kind: 2, Start: 4, Count: 4, Sum: 1}, r(5)}, faults(bad(0, -1))},
		{"raw and packed", []api.Entry{r(8), long}, faults(bad(1, -1))},
		{"packed and raw", []api.Entry{long, r(8), r(11), r(10), r(7), r(12)}, faults(bad(1, -1), bad(2, -1), bad(3, -1), bad(4, -1))},
		{"packed beside packed", []api.Entry{long, small, long}, nil},
		{"packed beside raw", []api.Entry{r(6), long, r(12)}, nil},
		{"another Count", []api.Entry{long, short}, faults(bad(1, -1))},
		{"another Count, less", []api.Entry{short, long, short}, faults(bad(1, -1))},
		{"another Size alone", []api.Entry{small, smallToo, small}, nil},
		{"the last sectors", []api.Entry{r(20), r(19)}, faults(bad(1, -1))},
	} {
		m := goodCounts(image(2, 0, c.own), file)
		checkFaults(t, c.what, m, file, c.wanted)
	}
}

// 15.2: entries are examined in the order of count.Each: the image's own ahead of those of the shots.
func TestEntriesOfShotsThatShareSectors(t *testing.T) {
	file := fileOf(24)
	r := func(start int) api.Entry { return raw(file, start, 2) }
	for _, c := range []struct {
		what   string
		m      api.Meta
		wanted []api.Fault
	}{
		{"own ahead", image(1, 0, []api.Entry{zero, r(4)}, []api.Entry{r(5)}), faults(bad(0, 0))},
		{"own and alike", image(1, 0, []api.Entry{zero, r(4)}, []api.Entry{r(4)}, []api.Entry{{}, r(4)}), nil},
		{"a shot ahead", image(1, 0, []api.Entry{zero}, []api.Entry{zero, r(4)}, []api.Entry{r(5)}), faults(bad(0, 1))},
		{"the order", image(1, 0, []api.Entry{zero, r(4), {}, r(5)}, []api.Entry{zero, r(5), r(4), r(3)}, []api.Entry{r(3), zero, r(6), r(7), r(5)}), faults(bad(3, -1), bad(1, 0), bad(3, 0), bad(0, 1), bad(3, 1), bad(4, 1))},
		{"of one shot", image(1, 0, nil, []api.Entry{r(4), r(5), r(6)}), faults(bad(1, 0))},
		{"far leaves", image(1, 0, append(make([]api.Entry, 17), r(5)), append(make([]api.Entry, 30), r(4), r(5))), faults(bad(30, 0))},
	} {
		checkFaults(t, c.what, goodCounts(c.m, file), file, c.wanted)
	}
}

// 15.2: the eight shots have their numbers, and the clusters theirs.
func TestFieldsOfFaults(t *testing.T) {
	file := fileOf(6)
	wrong := raw(file, 3, 1)
	wrong.Sum++
	m := api.Meta{Size: 4096, T: tableOf(append(make([]api.Entry, 4095), wrong)...)}
	wanted := faults(bad(4095, -1))
	for k := range 8 {
		at := []int{0, 7, 8, 9, 100, 4000, 4094, 4095}[k]
		m.Shots = append(m.Shots, api.Shot{Name: fmt.Sprint("s", k), Size: 4096, T: tableOf(append(make([]api.Entry, at), wrong)...)})
		wanted = append(wanted, bad(at, k))
	}
	checkFaults(t, "all tables", withCounts(m, 1, 2, 0, 3), file, append(wanted, high(1), high(3)))
	checkFaults(t, "no file", withCounts(m), nil, wanted)
}

// 15.2: the counts of a file's sectors.
func TestCountsOfTheFile(t *testing.T) {
	file := fileOf(6)
	m := image(0, 6, []api.Entry{raw(file, 3, 1), {}, raw(file, 5, 1), raw(file, 3, 1)}, []api.Entry{raw(file, 3, 1)})
	for _, c := range []struct {
		counts []int
		wanted []api.Fault
	}{
		{[]int{1, 1, 0, 3, 0, 1}, nil},
		{[]int{0, 1, 0, 3, 0, 1}, faults(low(0))},
		{[]int{2, 1, 0, 3, 0, 1}, faults(high(0))},
		{[]int{1, 0, 0, 3, 0, 1}, faults(low(1))},
		{[]int{1, 2, 0, 3, 0, 1}, faults(high(1))},
		{[]int{1, 1, 1, 3, 0, 1}, faults(high(2))},
		{[]int{1, 1, 0, 2, 0, 1}, faults(low(3))},
		{[]int{1, 1, 0, 4, 0, 1}, faults(high(3))},
		{[]int{1, 1, 0, 65535, 0, 1}, faults(high(3))},
		{[]int{1, 1, 0, 3, 0, 0}, faults(low(5))},
		{[]int{65535, 0, 7, 0, 9, 2}, faults(high(0), low(1), high(2), low(3), high(4), high(5))},
		{[]int{1, 1, 0, 3, 0}, faults(low(5))},
		{[]int{1, 1, 0, 3}, faults(low(5))},
		{[]int{1, 1, 0}, faults(low(3), low(5))},
		{[]int{1}, faults(low(1), low(3), low(5))},
		{nil, faults(low(0), low(1), low(3), low(5))},
		{[]int{1, 1, 0, 3, 0, 1, 0}, nil},
		{[]int{1, 1, 0, 3, 0, 1, 0, 0, 0, 0}, nil},
		{[]int{1, 1, 0, 3, 0, 1, 1}, faults(high(6))},
		{[]int{1, 1, 0, 0, 0, 2, 1, 0, 65535, 0}, faults(low(3), high(5), high(6), high(8))},
	} {
		checkFaults(t, fmt.Sprint(c.counts), withCounts(m, c.counts...), file, c.wanted)
	}
}

// 15.2: bad entries come ahead of counts, and don't count.
func TestBadEntriesDoNotCount(t *testing.T) {
	file := fileOf(9)
	wrong := raw(file, 3, 2)
	wrong.Sum++
	m := image(1, 9, []api.Entry{raw(file, 5, 2), wrong, raw(file, 6, 2), raw(file, 8, 2)}, []api.Entry{raw(file, 4, 2), raw(file, 5, 2)})
	want(t, "the counts", m.Counts, []int{1, 1, 0, 1, 2, 3, 3, 1, 1})
	checkFaults(t, "all", m, file, faults(bad(1, -1), bad(2, -1), bad(3, -1), bad(0, 0), high(3), high(4), high(5), high(6), high(7), high(8)))
	checkFaults(t, "what is left", withCounts(m, 1, 1, 0, 0, 0, 2, 2, 0, 0), file, faults(bad(1, -1), bad(2, -1), bad(3, -1), bad(0, 0)))
	checkFaults(t, "none of them", withCounts(m, 1, 1), file, faults(bad(1, -1), bad(2, -1), bad(3, -1), bad(0, 0), low(5), low(6)))
}

// 15.2: files of few bytes; only whole sectors count.
func TestFaultsOfFilesOfFewBytes(t *testing.T) {
	long := fileOf(4)
	m := image(0, 0, []api.Entry{raw(long, 2, 1)})
	for n, wanted := range map[int][]api.Fault{
		0: faults(bad(0, -1)), 1: faults(bad(0, -1)), 15: faults(bad(0, -1)), 16: faults(bad(0, -1), low(0)), 17: faults(bad(0, -1), low(0)), 31: faults(bad(0, -1), low(0)),
		32: faults(bad(0, -1), low(0), low(1)), 47: faults(bad(0, -1), low(0), low(1)), 48: faults(low(0), low(1), low(2)), 49: faults(low(0), low(1), low(2)), 64: faults(low(0), low(1), low(2)),
	} {
		checkFaults(t, fmt.Sprint(n, " bytes"), m, long[:n], wanted)
	}
	for n := range 65 {
		right := []int{1, 1, 1, 0}[:n/16]
		what := fmt.Sprint(n, " bytes and its counts")
		if n < 48 {
			checkFaults(t, what, withCounts(m, right...), long[:n], faults(bad(0, -1)))
		} else {
			checkFaults(t, what, withCounts(m, right...), long[:n], nil)
		}
		if n < 32 {
			checkFaults(t, what+", too many", withCounts(api.Meta{}, 1, 1), long[:n], faults(high(0), high(1))[n/16:])
		}
	}
}

// 15.2: at most the first MaxFile sectors count.
func TestFaultsOfFilesThatAreTooLong(t *testing.T) {
	for _, n := range []int{65535, 65536, 65537, 65536 + 100} {
		file := append(fileOf(n), 1, 2, 3)
		m := image(0, min(n, 65536), []api.Entry{raw(file, 65534, 1)})
		want(t, "the faults", Faults(m, file), nil)
		mended, errno := Mend(m, file)
		want(t, "the error", errno, api.OK)
		want(t, "the counts", len(mended.Counts), min(n, 65536))
		m.Counts[65534], m.Counts[65533], m.Counts[1] = 0, 2, 0
		want(t, "the faults", Faults(m, file), faults(low(1), high(65533), low(65534)))
	}
	m := image(0, 65536, []api.Entry{raw(fileOf(65536), 65535, 1)})
	want(t, "the last sector", Faults(m, fileOf(65540)), nil)
	want(t, "beyond the file", Faults(m, fileOf(65535)), faults(bad(0, -1), high(65535)))
	m.Counts = slices.Repeat([]int{1}, 65536)
	want(t, "as many counts as there may be", len(Faults(m, fileOf(3))), 1+65536-2)
}

// 15.2: any image over any small file is held against the words of the chapter.
func TestFaultsOfAny(t *testing.T) {
	random := rand.New(rand.NewSource(3))
	kinds := make(map[int]int)
	for range 6000 {
		m, file := someImage(random)
		wanted := modelFaults(m, file)
		checkFaults(t, "any", m, file, wanted)
		if len(wanted) == 0 {
			kinds[0]++
		}
		for _, fault := range wanted {
			kinds[fault.Kind]++
		}
	}
	for kind, n := range []int{100, 10000, 1500, 5000} {
		if kinds[kind] < n {
			t.Error("too few of a kind:", kinds)
		}
	}
}

// As many entries as there may be, each in sectors of its own, from the last one to the first: no call takes long.
func TestFaultsOfTheGreatestImage(t *testing.T) {
	file := fileOf(65536)
	m := api.Meta{Size: 4096}
	next := 65536
	full := func() api.Table {
		var l []api.Entry
		for range 4096 {
			next--
			l = append(l, raw(file, next, 1))
		}
		return tableOf(l...)
	}
	m.T = full()
	for k := range 8 {
		m.Shots = append(m.Shots, api.Shot{Name: strings.Repeat("s", k+1), Size: 4096, T: full()})
	}
	m.Counts = count.Of(m, 65536)
	want(t, "the faults", Faults(m, file), nil)
	want(t, "without a file", len(Faults(m, nil)), 9*4096+9*4096+2)
	mended, errno := Mend(m, nil)
	want(t, "the error", errno, api.OK)
	want(t, "the faults of what was mended", Faults(mended, nil), nil)
}
