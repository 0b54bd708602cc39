package table

import (
	"math"
	"math/rand"
	"slices"
	"testing"

	"matryoshka/api"
	"matryoshka/entry"
)

// entries are those of a table by their index; all others are EntryNone.
type entries map[int]api.Entry

func raw(start, count int) api.Entry {
	return api.Entry{Kind: api.EntryRaw, Start: start, Count: count, Sum: uint32(start) * 0x01020304}
}

func packed(start, count, size int) api.Entry {
	return api.Entry{Kind: api.EntryPacked, Start: start, Count: count, Size: size, Sum: math.MaxUint32}
}

var (
	none = api.Entry{}
	zero = api.Entry{Kind: api.EntryZero}
)

// sectors are those of a cluster, by doubling.
func sectors(cluster int) int {
	n := 1
	for range cluster {
		n *= 2
	}
	return n
}

// someEntry is an entry that is not EntryNone and valid for clusters of this size.
func someEntry(cluster, k int) api.Entry {
	switch whole := sectors(cluster); {
	case k%3 == 0:
		return zero
	case k%3 == 1 || cluster == 0:
		return raw(2+k%60000, whole)
	default:
		count := 1 + k%(whole-1)
		return packed(3+k%60000, count, count*16-k%16)
	}
}

// noEntries are entries that are valid for clusters of no size.
var noEntries = []api.Entry{
	{Start: 1}, {Count: 1}, {Size: 1}, {Sum: 1}, {Kind: 1, Start: 2}, {Kind: 1, Sum: 1}, {Kind: 4}, {Kind: -1}, {Kind: math.MaxInt},
	raw(1, 1), raw(2, 3), raw(2, 0), raw(2, 128), raw(65536, 1), raw(math.MaxInt, 2), packed(1, 1, 16), packed(2, 64, 1024), packed(2, 2, 16), packed(2, 0, 0),
}

var noClusters = []int{-1, -2, math.MinInt, math.MinInt + 1, 7, 8, 64, 1 << 32, math.MaxInt}

var farBelow = []int{math.MinInt, math.MinInt + 1, math.MinInt + 7, math.MinInt + 8, -1 << 32, -4097, -4096, -9, -8, -7, -1}

var farBeyond = []int{4096, 4097, 4103, 4104, 1 << 16, 1 << 32, 1<<32 + 9, 1<<35 + 9, math.MaxInt - 8, math.MaxInt - 7, math.MaxInt - 1, math.MaxInt}

// leafOf has these entries and then EntryNone, up to eight of them.
func leafOf(first ...api.Entry) []api.Entry {
	return append(slices.Clone(first), make([]api.Entry, 8-len(first))...)
}

func leaves(l ...[]api.Entry) api.Table {
	return api.Table{L: l}
}

// tableOf is the only valid table of these entries.
func tableOf(of entries) api.Table {
	var t api.Table
	for number := range 512 {
		leaf := make([]api.Entry, 8)
		blank := true
		for i := range leaf {
			leaf[i] = of[number*8+i]
			blank = blank && leaf[i].Kind == 0
		}
		if !blank {
			t.L = append(t.L, make([][]api.Entry, number-len(t.L))...)
			t.L = append(t.L, leaf)
		}
	}
	return t
}

// with is a copy of the entries with another one.
func (of entries) with(i int, e api.Entry) entries {
	out := entries{i: e}
	for at, x := range of {
		if at != i {
			out[at] = x
		}
	}
	return out
}

// ahead is a copy of the entries whose index is below n.
func (of entries) ahead(n int) entries {
	out := entries{}
	for at, x := range of {
		if at < n {
			out[at] = x
		}
	}
	return out
}

// behind is the index behind the last of the entries.
func (of entries) behind() int {
	behind := 0
	for at, x := range of {
		if x.Kind != 0 {
			behind = max(behind, at+1)
		}
	}
	return behind
}

// validFor tells whether all the entries are valid for clusters of this size.
func (of entries) validFor(cluster int) bool {
	for _, e := range of {
		if !entry.May(e, cluster) {
			return false
		}
	}
	return true
}

// after is what Set makes of the entries: all that are there and the new one are valid for clusters of one size, or
// nothing is set.
func (of entries) after(i int, e api.Entry) entries {
	if i < 0 || i > 4095 {
		return of
	}
	for cluster := range 7 {
		if entry.May(e, cluster) && of.validFor(cluster) {
			return of.with(i, e)
		}
	}
	return of
}

// copied is a table in memory of its own; nil leaves stay nil.
func copied(t api.Table) api.Table {
	var out api.Table
	for _, leaf := range t.L {
		out.L = append(out.L, append([]api.Entry(nil), leaf...))
	}
	return out
}

// same tells whether two tables are equal, where a nil list and an empty one are.
func same(x, y api.Table) bool {
	return slices.EqualFunc(x.L, y.L, slices.Equal[[]api.Entry])
}

func checkSame(t *testing.T, what string, got, want api.Table) {
	t.Helper()
	if !same(got, want) {
		t.Errorf("%s: %v, want %v", what, got, want)
	}
}

// someEntries are up to so many entries with an index below n, all of them valid for clusters of this size.
func someEntries(random *rand.Rand, count, n, cluster int) entries {
	of := entries{}
	for range random.Intn(count + 1) {
		of[random.Intn(n)] = someEntry(cluster, random.Intn(1<<20))
	}
	return of
}

// fullTable has an entry that is not EntryNone at each index below n.
func fullTable(n, cluster int) entries {
	of := entries{}
	for i := range n {
		of[i] = someEntry(cluster, i)
	}
	return of
}

// noTables are tables that are valid for no number of clusters of any size.
func noTables() []api.Table {
	all := []api.Table{
		leaves(nil), leaves([]api.Entry{}), leaves(nil, nil), leaves(make([]api.Entry, 0, 8)),
		leaves(leafOf()), leaves(leafOf(zero), leafOf()), leaves(leafOf(), leafOf(zero)),
		leaves(leafOf(zero), nil), leaves(leafOf(zero), []api.Entry{}), leaves(leafOf(zero), nil, []api.Entry{}, nil),
		leaves(leafOf(zero)[:7]), leaves(leafOf(zero)[:1]), leaves(append(leafOf(zero), none)), leaves(append(leafOf(zero), zero)),
		leaves(append(leafOf(zero), leafOf(zero)...)), leaves(leafOf(zero), leafOf(zero)[:7], leafOf(zero)), leaves(make([]api.Entry, 7)),
		leaves(leafOf(raw(2, 2), raw(4, 4))), leaves(leafOf(raw(2, 1)), nil, leafOf(packed(2, 1, 1))), leaves(leafOf(packed(2, 3, 40)), leafOf(raw(8, 2))),
		{L: append(make([][]api.Entry, 512), leafOf(zero))}, {L: append(tableOf(entries{4095: zero}).L, nil)},
	}
	for _, e := range noEntries {
		all = append(all, leaves(leafOf(e)), leaves(leafOf(zero, zero, e)), leaves(leafOf(zero), nil, leafOf(zero, none, none, none, none, none, none, e)))
	}
	return all
}
