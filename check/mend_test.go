package check

import (
	"bytes"
	"math/rand"
	"slices"
	"testing"

	"matryoshka/api"
	"matryoshka/copies"
	"matryoshka/count"
	"matryoshka/meta"
	"matryoshka/table"
)

// checkMended is what 15.3 and 15.4 say of Mend for a valid meta.
func checkMended(t *testing.T, what string, m api.Meta, file []byte) {
	t.Helper()
	wanted := copies.Meta(m)
	_, bad := modelLines(m, file)
	for _, line := range bad {
		if line.Shot < 0 {
			wanted.T = table.Set(wanted.T, line.Cluster, zero)
		} else {
			wanted.Shots[line.Shot].T = table.Set(wanted.Shots[line.Shot].T, line.Cluster, zero)
		}
	}
	wanted.Counts = count.Of(wanted, min(len(file)/16, 65536))
	mended, errno := Mend(m, file)
	want(t, what+", the error of Mend", errno, api.OK)
	want(t, what+", mended", mended, wanted)
	want(t, what+", Right", meta.Right(mended), true)
	want(t, what+", faults behind Mend", len(Faults(mended, file)), 0)
	again, errno := Mend(mended, file)
	want(t, what+", the error of Mend again", errno, api.OK)
	want(t, what+", mended again", again, mended)
	if len(bad) == 0 {
		checkSameContents(t, what, m, mended, file)
	}
}

// checkSameContents is that all clusters of two images have the same contents, without an error.
func checkSameContents(t *testing.T, what string, m, other api.Meta, file []byte) {
	t.Helper()
	tables, others := []api.Table{m.T}, []api.Table{other.T}
	for i := range m.Shots {
		tables, others = append(tables, m.Shots[i].T), append(others, other.Shots[i].T)
	}
	for k := range tables {
		for i := range max(len(tables[k].L), len(others[k].L)) * 8 {
			one, first := Bytes(table.Get(tables[k], i), file, m.Cluster)
			two, second := Bytes(table.Get(others[k], i), file, other.Cluster)
			if first != api.OK || second != api.OK || !bytes.Equal(one, two) {
				t.Fatalf("%s: cluster %d of %d: %d, %x, then %d, %x", what, i, k-1, first, one, second, two)
			}
		}
	}
}

// everything is an image with faults of every kind, and all the parts that an image may have.
func everything() (api.Meta, []byte) {
	file := fileOf(30)
	contents := bytes.Repeat([]byte{8}, 32)
	p := packed(file, 20, repeated(8, 32, 2), contents)
	wrong, broken := raw(file, 4, 2), p
	wrong.Sum++
	broken.Size--
	m := api.Meta{
		Cluster: 1, Size: 40, Back: "below", T: tableOf(raw(file, 2, 2), wrong, p, zero, api.Entry{}, broken, raw(file, 3, 2), raw(file, 29, 2), api.Entry{}, raw(file, 6, 2)),
		Shots: []api.Shot{
			{Name: "one", Size: 4096, T: tableOf(append(make([]api.Entry, 20), p, wrong, raw(file, 7, 2), raw(file, 8, 2))...)},
			{Name: "two", Size: 0},
			{Name: "three", Size: 16, T: tableOf(wrong)},
		},
		Maps:   []api.Bitmap{{Name: "a", On: true, L: []api.Span{{From: 1, To: 4}, {From: 9, To: 4096}}}, {Name: "b"}},
		Counts: []int{0, 1, 5, 0, 2, 0, 1},
	}
	return m, append(file, 1, 2, 3)
}

// 15.3: every bad entry becomes EntryZero, and all else stays as it was but the counts.
func TestMendOfEverything(t *testing.T) {
	m, file := everything()
	checkFaults(t, "everything", m, file, faults(
		bad(1, -1), bad(5, -1), bad(6, -1), bad(7, -1), bad(21, 0), bad(22, 0), bad(0, 2),
		low(0), high(2), low(3), high(4), low(7), low(8), low(9), low(20)))
	mended, errno := Mend(m, file)
	want(t, "the error", errno, api.OK)
	wanted, _ := everything()
	for _, i := range []int{1, 5, 6, 7} {
		wanted.T.L[0][i] = zero
	}
	wanted.Shots[0].T.L[2][5], wanted.Shots[0].T.L[2][6] = zero, zero
	wanted.Shots[2].T.L[0][0] = zero
	wanted.Counts = []int{1, 1, 1, 1, 0, 0, 1, 1, 1, 1, 0, 0, 0, 0, 0, 0, 0, 0, 0, 0, 2, 0, 0, 0, 0, 0, 0, 0, 0, 0}
	want(t, "what was mended", mended, wanted)
}

// 15.3: the counts alone are mended where no entry is bad, whatever they were.
func TestMendOfCounts(t *testing.T) {
	file := fileOf(7)
	m := image(0, 7, []api.Entry{raw(file, 2, 1), zero, raw(file, 6, 1), raw(file, 2, 1)}, []api.Entry{raw(file, 5, 1)})
	right := slices.Clone(m.Counts)
	for _, counts := range [][]int{nil, {1}, right, right[:6], {9, 9, 9, 9, 9, 9, 9}, make([]int, 65536), slices.Repeat([]int{65535}, 65536)} {
		mended, errno := Mend(withCounts(m, counts...), file)
		want(t, "the error", errno, api.OK)
		want(t, "what was mended", mended, m)
	}
}

// 15.3: as many counts as the file has whole sectors.
func TestMendOfFilesOfFewBytes(t *testing.T) {
	long := fileOf(5)
	for n := range len(long) {
		mended, errno := Mend(withCounts(image(0, 0, []api.Entry{raw(long, 2, 1), raw(long, 3, 1)}), 7, 7, 7, 7, 7, 7), long[:n])
		want(t, "the error", errno, api.OK)
		entries, counts := []api.Entry{zero, zero}, []int{1, 1, 0, 0, 0}
		for i := range entries {
			if n >= 16*(3+i) {
				entries[i], counts[2+i] = raw(long, 2+i, 1), 1
			}
		}
		want(t, "the table", mended.T, tableOf(entries...))
		want(t, "the counts", mended.Counts, counts[:n/16])
	}
}

// 15.3: a leaf all of whose entries are bad is not absent; it shows noughts, not what stands below.
func TestMendOfBadLeaves(t *testing.T) {
	m := api.Meta{Size: 30, T: tableOf(slices.Concat(make([]api.Entry, 8), slices.Repeat([]api.Entry{{Kind: 2, Start: 2, Count: 1}}, 20))...)}
	mended, errno := Mend(m, nil)
	want(t, "the error", errno, api.OK)
	want(t, "the table", mended.T, tableOf(slices.Concat(make([]api.Entry, 8), slices.Repeat([]api.Entry{zero}, 20))...))
}

// 15.4: for any image; checkMended asks it, and what was mended keeps what is not bad.
func TestMendOfAny(t *testing.T) {
	random := rand.New(rand.NewSource(4))
	whole := 0
	for range 6000 {
		m, file := someImage(random)
		checkMended(t, "any", m, file)
		if _, bad := modelLines(m, file); len(bad) == 0 && len(count.Each(m)) > 0 {
			whole++
		}
	}
	if whole < 100 {
		t.Error("too few without a bad entry:", whole)
	}
}

// 15.4: any bytes as a file.
func TestMendOverAnyBytes(t *testing.T) {
	random := rand.New(rand.NewSource(5))
	m, file := everything()
	for range 2000 {
		other := slices.Clone(file[:random.Intn(len(file)+1)])
		for range random.Intn(8) {
			if len(other) > 0 {
				other[random.Intn(len(other))] ^= byte(1 + random.Intn(255))
			}
		}
		checkFaults(t, "turned bytes", m, other, modelFaults(m, other))
	}
}
