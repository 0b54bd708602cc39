package count

import (
	"math"
	"math/rand"
	"slices"
	"testing"
	"time"

	"matryoshka/api"
)

// 9.2: sectors 0 and 1 count 1, all others 0.
func TestOfOfNoEntries(t *testing.T) {
	for _, m := range []api.Meta{{}, metaOf(tableOf(none, zero), tableOf(zero))} {
		checkOf(t, m, 0, nil)
		checkOf(t, m, 1, []int{1})
		checkOf(t, m, 2, []int{1, 1})
		checkOf(t, m, 3, []int{1, 1, 0})
		checkOf(t, m, 9, []int{1, 1, 0, 0, 0, 0, 0, 0, 0})
	}
}

// 9.2: whatever else a meta has.
func TestOfOfAllThatIsNotAsked(t *testing.T) {
	m := metaOf(tableOf(raw(2, 1)))
	for _, n := range slices.Concat(farBelow, farBeyond, []int{0, 1}) {
		m.Cluster, m.Size, m.Counts = n, n, []int{n, n, n, n}
		checkOf(t, m, 4, []int{1, 1, 1, 0})
	}
}

// 9.2
func TestOfOfSizes(t *testing.T) {
	m := metaOf(tableOf(raw(2, 2), raw(65535, 1), raw(65534, 4)), tableOf(raw(0, 1)))
	for _, size := range []int{0, 1, 2, 3, 4, 5, 63, 64, 4096, 65533, 65534, 65535, 65536} {
		want := make([]int, 65536)
		copy(want, []int{2, 1, 1, 1})
		want[65534], want[65535] = 1, 2
		checkOf(t, m, size, want[:size])
	}
	for _, size := range slices.Concat(farBelow, []int{-7, -2, -1, 65537, 65538}, farBeyond[1:]) {
		checkOf(t, m, size, nil)
		checkOf(t, api.Meta{}, size, nil)
	}
}

// 9.2: entries about the end.
func TestOfOfTheEnd(t *testing.T) {
	for _, c := range []struct {
		start, count int
		want         []int
	}{
		{4, 3, []int{1, 1, 0, 0, 1, 1, 1, 0}},
		{4, 4, []int{1, 1, 0, 0, 1, 1, 1, 1}},
		{4, 5, []int{1, 1, 0, 0, 1, 1, 1, 1}},
		{4, math.MaxInt, []int{1, 1, 0, 0, 1, 1, 1, 1}},
		{4, math.MaxInt - 4, []int{1, 1, 0, 0, 1, 1, 1, 1}},
		{7, 1, []int{1, 1, 0, 0, 0, 0, 0, 1}},
		{7, 2, []int{1, 1, 0, 0, 0, 0, 0, 1}},
		{8, 1, []int{1, 1, 0, 0, 0, 0, 0, 0}},
		{9, 1, []int{1, 1, 0, 0, 0, 0, 0, 0}},
		{8, math.MaxInt, []int{1, 1, 0, 0, 0, 0, 0, 0}},
		{math.MaxInt, 1, []int{1, 1, 0, 0, 0, 0, 0, 0}},
		{math.MaxInt, math.MaxInt, []int{1, 1, 0, 0, 0, 0, 0, 0}},
		{math.MaxInt - 3, 8, []int{1, 1, 0, 0, 0, 0, 0, 0}},
	} {
		checkOf(t, metaOf(tableOf(raw(c.start, c.count))), 8, c.want)
		checkOf(t, metaOf(api.Table{}, tableOf(zero, packed(c.start, c.count, 1))), 8, c.want)
	}
}

// 9.2: entries about the start.
func TestOfOfTheStart(t *testing.T) {
	for _, c := range []struct {
		start, count int
		want         []int
	}{
		{0, 1, []int{2, 1, 0, 0, 0}},
		{0, 2, []int{2, 2, 0, 0, 0}},
		{0, 5, []int{2, 2, 1, 1, 1}},
		{0, math.MaxInt, []int{2, 2, 1, 1, 1}},
		{1, 1, []int{1, 2, 0, 0, 0}},
		{1, 3, []int{1, 2, 1, 1, 0}},
		{1, math.MaxInt, []int{1, 2, 1, 1, 1}},
		{2, 1, []int{1, 1, 1, 0, 0}},
		{-1, 1, []int{1, 1, 0, 0, 0}},
		{-1, 2, []int{2, 1, 0, 0, 0}},
		{-1, 3, []int{2, 2, 0, 0, 0}},
		{-3, 6, []int{2, 2, 1, 0, 0}},
		{-3, 7, []int{2, 2, 1, 1, 0}},
		{-3, 8, []int{2, 2, 1, 1, 1}},
		{-3, 9, []int{2, 2, 1, 1, 1}},
		{-3, math.MaxInt, []int{2, 2, 1, 1, 1}},
		{-math.MaxInt, math.MaxInt, []int{1, 1, 0, 0, 0}},
		{-math.MaxInt + 2, math.MaxInt, []int{2, 2, 0, 0, 0}},
		{math.MinInt, math.MaxInt, []int{1, 1, 0, 0, 0}},
		{math.MinInt, 1, []int{1, 1, 0, 0, 0}},
	} {
		checkOf(t, metaOf(tableOf(none, raw(c.start, c.count))), 5, c.want)
		checkOf(t, metaOf(api.Table{}, tableOf(packed(c.start, c.count, 1))), 5, c.want)
	}
}

// 9.2: an entry of no sectors occupies none.
func TestOfOfNoSectors(t *testing.T) {
	for _, count := range slices.Concat(farBelow, []int{-5, -4, -3, -2, -1, 0}) {
		for _, start := range slices.Concat(farBelow, farBeyond, []int{-1, 0, 1, 2, 3, 4, 5, 6, 7}) {
			checkOf(t, metaOf(tableOf(raw(start, count)), tableOf(packed(start, count, 1))), 6, []int{1, 1, 0, 0, 0, 0})
		}
	}
}

// 9.2: only kinds that have lines occupy sectors.
func TestOfOfOtherKinds(t *testing.T) {
	for _, kind := range slices.Concat(farBelow, farBeyond, []int{-1, 0, 1, 4, 5}) {
		checkOf(t, metaOf(tableOf(api.Entry{Kind: kind, Start: 2, Count: 3}, raw(4, 1))), 6, []int{1, 1, 0, 0, 1, 0})
	}
}

// 9.2: as many lines as occupy a sector, of shots, too.
func TestOfOfSharedSectors(t *testing.T) {
	checkOf(t, metaOf(tableOf(raw(3, 4), raw(3, 4), packed(5, 1, 9))), 8, []int{1, 1, 0, 2, 2, 3, 2, 0})
	checkOf(t, metaOf(tableOf(raw(3, 4)), tableOf(raw(3, 4)), api.Table{}, tableOf(none, raw(6, 4))), 10, []int{1, 1, 0, 2, 2, 2, 3, 1, 1, 1})
	leaf := slices.Repeat([]api.Entry{raw(2, 1)}, 8)
	checkOf(t, metaOf(leaves(leaf, nil, leaf), leaves(leaf)), 4, []int{1, 1, 24, 0})
	checkOf(t, metaOf(leaves(slices.Repeat([]api.Entry{raw(2, 1)}, 100), []api.Entry{raw(3, 1)})), 4, []int{1, 1, 8, 1})
}

// 9.2: each start and count about a small file.
func TestOfOfEachEntry(t *testing.T) {
	for start := -9; start < 10; start++ {
		for count := -2; count < 20; count++ {
			m := metaOf(tableOf(raw(start, count)))
			for size := range 8 {
				checkOf(t, m, size, countsOf(m, size))
			}
		}
	}
}

// 9.2: whatever the tables are.
func TestOfOfManyMetas(t *testing.T) {
	random := rand.New(rand.NewSource(2))
	for range 1500 {
		m := anyMeta(random)
		for _, size := range []int{0, 1, 2, 3, random.Intn(60), 50} {
			checkOf(t, m, size, countsOf(m, size))
		}
	}
}

// 9.2: entries of many sectors take no longer than others.
func TestOfInLittleTime(t *testing.T) {
	leaf := slices.Repeat([]api.Entry{raw(0, 65536)}, 8)
	x := leaves(slices.Repeat([][]api.Entry{leaf}, 1<<15)...)
	begun := time.Now()
	got := Of(metaOf(x, x, x, x), 65536)
	if taken := time.Since(begun); taken > 20*time.Second {
		t.Errorf("it took %v", taken)
	}
	const entries = 4 << 18
	want := slices.Repeat([]int{entries}, 65536)
	want[0], want[1] = entries+1, entries+1
	if !slices.Equal(got, want) {
		t.Error("other counts")
	}
}

// sumOf is what the counts add up to.
func sumOf(counts []int) int {
	sum := 0
	for _, count := range counts {
		sum += count
	}
	return sum
}

// 9.4
func TestSumOfTheCounts(t *testing.T) {
	if sum := sumOf(Of(api.Meta{}, 2)); sum != 2 {
		t.Errorf("%d, want 2", sum)
	}
	random := rand.New(rand.NewSource(4))
	for range 500 {
		size := 2 + random.Intn(3000)
		sectors := 0
		var all []api.Table
		for range 1 + random.Intn(5) {
			var entries []api.Entry
			for range random.Intn(40) {
				count := random.Intn(min(size, 64)) + 1
				start := random.Intn(size - count + 1)
				of := []api.Entry{none, zero, raw(start, count), packed(start, count, count*16)}[random.Intn(4)]
				entries = append(entries, of)
				sectors += of.Count
			}
			all = append(all, tableOf(entries...))
		}
		m := metaOf(all[0], all[1:]...)
		if sum := sumOf(Of(m, size)); sum != sectors+2 {
			t.Errorf("the counts of %v add up to %d, want %d", m, sum, sectors+2)
		}
		// All sectors that there can be have those of the same entries, too.
		if sum := sumOf(Of(m, 65536)); sum != sectors+2 {
			t.Errorf("the counts of %v add up to %d, want %d", m, sum, sectors+2)
		}
	}
}

// 9.4: an entry that is at the very end of the sectors.
func TestSumOfWhatEndsAtTheEnd(t *testing.T) {
	for size := 2; size < 200; size++ {
		for _, count := range []int{1, 2, size / 2, size - 1, size} {
			m := metaOf(tableOf(raw(size-count, count)), tableOf(raw(size-count, count), raw(0, count)))
			if sum := sumOf(Of(m, size)); sum != 3*count+2 {
				t.Errorf("the counts add up to %d, want %d", sum, 3*count+2)
			}
		}
	}
}
