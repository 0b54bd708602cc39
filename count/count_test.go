package count

import (
	"math"
	"math/rand"
	"slices"
	"sync"
	"testing"

	"matryoshka/api"
)

var (
	none = api.Entry{}
	zero = api.Entry{Kind: 1}
)

func raw(start, count int) api.Entry {
	return api.Entry{Kind: 2, Start: start, Count: count, Sum: uint32(start) * 0x01020304}
}

func packed(start, count, size int) api.Entry {
	return api.Entry{Kind: 3, Start: start, Count: count, Size: size, Sum: math.MaxUint32}
}

func leaves(l ...[]api.Entry) api.Table {
	return api.Table{L: l}
}

// leafOf has these entries and then EntryNone, up to eight of them.
func leafOf(first ...api.Entry) []api.Entry {
	return append(slices.Clone(first), make([]api.Entry, 8-len(first))...)
}

// tableOf has these entries in leaves of eight.
func tableOf(entries ...api.Entry) api.Table {
	var t api.Table
	for leaf := range slices.Chunk(entries, 8) {
		t.L = append(t.L, leafOf(leaf...))
	}
	return t
}

// metaOf has a table of its own and shots of these tables.
func metaOf(own api.Table, shots ...api.Table) api.Meta {
	m := api.Meta{Cluster: 3, Size: 400, Back: "below", T: own, Counts: []int{7, 7, 7}}
	for i, t := range shots {
		m.Shots = append(m.Shots, api.Shot{Name: string(rune('a' + i)), Size: i, T: t})
	}
	return m
}

func line(shot, cluster int, e api.Entry) api.Line {
	return api.Line{Shot: shot, Cluster: cluster, E: e}
}

// linesOf goes the way of the chapter's words for each entry of each leaf.
func linesOf(m api.Meta) []api.Line {
	var l []api.Line
	all := []api.Table{m.T}
	for _, s := range m.Shots {
		all = append(all, s.T)
	}
	for shot, t := range all {
		for number, leaf := range t.L {
			for i, e := range leaf {
				if i < 8 && (e.Kind == 2 || e.Kind == 3) {
					l = append(l, line(shot-1, number*8+i, e))
				}
			}
		}
	}
	return l
}

// occupies holds the distance of a sector from the start against the count; a distance of two ints fits an uint64.
func occupies(e api.Entry, sector int) bool {
	return e.Count > 0 && e.Start <= sector && uint64(sector)-uint64(e.Start) < uint64(e.Count)
}

// countsOf asks each line for each sector.
func countsOf(m api.Meta, size int) []int {
	var counts []int
	for sector := range max(size, 0) {
		count := 0
		if sector < 2 {
			count = 1
		}
		for _, l := range linesOf(m) {
			if occupies(l.E, sector) {
				count++
			}
		}
		counts = append(counts, count)
	}
	return counts
}

// short is what a test tells of a list.
func short(l []int) []int {
	return l[:min(len(l), 100)]
}

func checkEach(t *testing.T, m api.Meta, want []api.Line) {
	t.Helper()
	if got := Each(m); !slices.Equal(got, want) {
		t.Errorf("Each(%v) = %v, want %v", m, got, want)
	}
}

func checkOf(t *testing.T, m api.Meta, size int, want []int) {
	t.Helper()
	if got := Of(m, size); !slices.Equal(got, want) {
		t.Errorf("Of(%v, %d) = %v, want %v", m, size, short(got), short(want))
	}
}

func checkFree(t *testing.T, used []int, n, from, most, want int) {
	t.Helper()
	if got, ok := Free(used, n, from, most); !ok || got != want {
		t.Errorf("Free(%v, %d, %d, %d) = %d, %v, want %d", short(used), n, from, most, got, ok, want)
	}
}

func checkNoneFree(t *testing.T, used []int, n, from, most int) {
	t.Helper()
	if got, ok := Free(used, n, from, most); ok || got != 0 {
		t.Errorf("Free(%v, %d, %d, %d) = %d, %v", short(used), n, from, most, got, ok)
	}
}

var farBelow = []int{math.MinInt, math.MinInt + 1, math.MinInt + 2, math.MinInt + 1<<16, -1 << 62, -1 << 32, -65537, -65536, -65535, -4096, -9, -8}

var farBeyond = []int{65536, 65537, 1 << 20, 1 << 31, 1 << 32, 1<<32 + 3, 1 << 62, math.MaxInt - 1<<16, math.MaxInt - 2, math.MaxInt - 1, math.MaxInt}

// anyInt is a number of no more than most, or one far away.
func anyInt(random *rand.Rand, most int) int {
	switch random.Intn(12) {
	case 0:
		return farBelow[random.Intn(len(farBelow))]
	case 1:
		return farBeyond[random.Intn(len(farBeyond))]
	}
	return random.Intn(most+4) - 3
}

func anyEntry(random *rand.Rand) api.Entry {
	return api.Entry{
		Kind:  random.Intn(6) - 1,
		Start: anyInt(random, 40),
		Count: anyInt(random, 12),
		Size:  anyInt(random, 200),
		Sum:   random.Uint32(),
	}
}

// anyTable has leaves of any lengths, absent ones among them.
func anyTable(random *rand.Rand) api.Table {
	var t api.Table
	for range random.Intn(6) {
		var leaf []api.Entry
		for range []int{0, 8, 8, 8, random.Intn(12)}[random.Intn(5)] {
			leaf = append(leaf, anyEntry(random))
		}
		t.L = append(t.L, leaf)
	}
	return t
}

func anyMeta(random *rand.Rand) api.Meta {
	var shots []api.Table
	for range random.Intn(4) {
		shots = append(shots, anyTable(random))
	}
	return metaOf(anyTable(random), shots...)
}

// someMetas are ordinary ones, and ones whose tables are not valid.
func someMetas() []api.Meta {
	all := []api.Meta{
		{},
		metaOf(tableOf(none, zero, raw(2, 3), packed(9, 1, 16))),
		metaOf(api.Table{}, api.Table{}, tableOf(raw(5, 8)), leaves(nil, leafOf(raw(5, 8)))),
		metaOf(leaves(leafOf(raw(2, 2), zero, packed(4, 1, 3)), nil, leafOf(none, raw(2, 2))), tableOf(raw(5, 2)), api.Table{}, tableOf(raw(2, 2))),
	}
	random := rand.New(rand.NewSource(9))
	for range 40 {
		all = append(all, anyMeta(random))
	}
	return all
}

// R1 and R5: the same calls have the same results, whatever runs beside them.
func TestCallsShareNothing(t *testing.T) {
	all := someMetas()
	var together sync.WaitGroup
	for range 8 {
		together.Go(func() {
			for _, m := range all {
				counts := countsOf(m, 30)
				checkEach(t, m, linesOf(m))
				checkOf(t, m, 30, counts)
				if s, ok := Free(counts, 2, 0, 99); !ok || s < 2 {
					t.Errorf("Free(%v, 2, 0, 99) = %d, %v", counts, s, ok)
				}
			}
		})
	}
	together.Wait()
}
