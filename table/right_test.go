package table

import (
	"math"
	"math/rand"
	"slices"
	"testing"

	"matryoshka/api"
)

func checkRight(t *testing.T, x api.Table, n, cluster int, want bool) {
	t.Helper()
	if got := Right(x, n, cluster); got != want {
		t.Errorf("Right(%v, %d, %d) = %v", x, n, cluster, got)
	}
}

// 8.1: the empty table is valid for all numbers of clusters of all sizes.
func TestRightOfTheEmptyTable(t *testing.T) {
	for _, x := range []api.Table{{}, {L: [][]api.Entry{}}, {L: make([][]api.Entry, 0, 4)}, {L: [][]api.Entry{leafOf()}[:0]}} {
		for cluster := range 7 {
			for n := range 4097 {
				checkRight(t, x, n, cluster, true)
			}
		}
	}
}

// 8.1
func TestRightForNoNumberOfClusters(t *testing.T) {
	for cluster := range 7 {
		for _, of := range []entries{{}, {0: zero}, {7: zero}, {8: zero}, {4095: zero}} {
			checkRight(t, tableOf(of), 4096, cluster, true)
			for _, n := range slices.Concat(farBelow, farBeyond[1:]) {
				checkRight(t, tableOf(of), n, cluster, false)
			}
		}
	}
}

// 8.1
func TestRightForNoCluster(t *testing.T) {
	for _, of := range []entries{{}, {0: zero}, {0: raw(2, 128)}, {0: raw(2, 0)}, {0: raw(2, 1)}, {0: raw(2, 64)}} {
		for _, cluster := range noClusters {
			for _, n := range []int{0, 1, 8, 4096} {
				checkRight(t, tableOf(of), n, cluster, false)
			}
		}
	}
	for cluster := -3; cluster <= 10; cluster++ {
		checkRight(t, leaves(leafOf(zero)), 8, cluster, 0 <= cluster && cluster <= 6)
	}
}

// 8.1: an entry at n is one too many.
func TestRightForEachNumberOfClusters(t *testing.T) {
	for _, at := range []int{0, 1, 6, 7, 8, 9, 15, 16, 17, 2047, 2048, 4087, 4088, 4094, 4095} {
		for _, x := range []api.Table{tableOf(entries{at: zero}), tableOf(entries{0: zero, at: zero}), tableOf(fullTable(at+1, 2))} {
			for n := range 4097 {
				checkRight(t, x, n, 2, at < n)
			}
		}
	}
}

// 8.1: what lies from n on may lie in several leaves, or within an earlier leaf than the last.
func TestRightOfEntriesInSeveralLeaves(t *testing.T) {
	x := tableOf(entries{3: zero, 5: zero, 17: zero, 33: zero})
	for n := range 100 {
		checkRight(t, x, n, 0, n >= 34)
	}
	checkRight(t, leaves(leafOf(none, zero), leafOf(zero)), 1, 0, false)
	checkRight(t, leaves(leafOf(none, none, none, zero), nil), 3, 0, false)
}

// 8.1
func TestRightOfLeavesOfEachLength(t *testing.T) {
	for length := range 20 {
		leaf := slices.Repeat([]api.Entry{zero}, length)
		for _, roomy := range [][]api.Entry{leaf, append(leaf, zero, zero, zero, zero, zero, zero, zero, zero)[:length]} {
			checkRight(t, leaves(roomy), 4096, 3, length == 8)
			checkRight(t, leaves(roomy, leafOf(zero)), 4096, 3, length == 8 || length == 0)
			checkRight(t, leaves(leafOf(zero), roomy, leafOf(zero)), 4096, 3, length == 8 || length == 0)
			checkRight(t, leaves(leafOf(zero), nil, roomy), 4096, 3, length == 8)
		}
		if length > 0 {
			blank := make([]api.Entry, length)
			checkRight(t, leaves(blank), 4096, 3, false)
			checkRight(t, leaves(blank, leafOf(zero)), 4096, 3, false)
			blank[length-1] = zero
			checkRight(t, leaves(blank), 4096, 3, length == 8)
		}
	}
}

// 8.1: a leaf is absent or not all EntryNone; one entry at any place is enough.
func TestRightOfOneEntryInALeaf(t *testing.T) {
	for place := range 8 {
		leaf := leafOf()
		checkRight(t, leaves(leaf), 4096, 1, false)
		checkRight(t, leaves(leafOf(zero), leaf), 4096, 1, false)
		checkRight(t, leaves(leaf, leafOf(zero)), 4096, 1, false)
		for _, e := range []api.Entry{zero, raw(2, 2), packed(2, 1, 5)} {
			leaf[place] = e
			checkRight(t, leaves(leaf), 4096, 1, true)
			checkRight(t, leaves(leafOf(zero), leaf), 4096, 1, true)
			checkRight(t, leaves(leaf, nil, leafOf(zero)), 4096, 1, true)
		}
	}
}

// 8.1
func TestRightOfAbsentLeaves(t *testing.T) {
	for _, absent := range [][]api.Entry{nil, {}, make([]api.Entry, 0, 8), leafOf(zero)[:0]} {
		checkRight(t, leaves(absent), 4096, 0, false)
		checkRight(t, leaves(absent, absent), 4096, 0, false)
		checkRight(t, leaves(leafOf(zero), absent), 4096, 0, false)
		checkRight(t, leaves(leafOf(zero), absent, absent), 4096, 0, false)
		checkRight(t, leaves(absent, leafOf(zero)), 4096, 0, true)
		checkRight(t, leaves(absent, absent, leafOf(zero)), 17, 0, true)
		checkRight(t, leaves(leafOf(zero), absent, leafOf(zero)), 17, 0, true)
		checkRight(t, leaves(leafOf(zero), absent, leafOf(zero), absent), 4096, 0, false)
	}
	checkRight(t, api.Table{L: make([][]api.Entry, 512)}, 4096, 0, false)
	checkRight(t, api.Table{L: make([][]api.Entry, 1<<20)}, 4096, 0, false)
}

// 8.1: the greatest index is MaxDisk - 1.
func TestRightOfTooManyLeaves(t *testing.T) {
	for _, length := range []int{510, 511, 512, 513, 1024, 1 << 16} {
		for place := range 8 {
			last := leafOf()
			last[place] = zero
			checkRight(t, api.Table{L: append(make([][]api.Entry, length-1), last)}, 4096, 5, length <= 512)
		}
	}
	checkRight(t, tableOf(fullTable(4096, 5)), 4096, 5, true)
	checkRight(t, leaves(append(tableOf(fullTable(4096, 5)).L, leafOf(zero))...), 4096, 5, false)
	checkRight(t, leaves(append(tableOf(fullTable(4096, 5)).L, leafOf())...), 4096, 5, false)
}

// 8.1: an entry that is not valid, at each place of a leaf and in each leaf.
func TestRightOfAnEntryThatIsNotValid(t *testing.T) {
	for cluster := range 7 {
		wrong := append(slices.Clone(noEntries), raw(2, sectors(cluster)*2), packed(2, sectors(cluster), sectors(cluster)*16))
		if cluster > 0 {
			wrong = append(wrong, raw(2, sectors(cluster)/2))
		}
		for place := range 24 {
			of := fullTable(24, cluster)
			checkRight(t, tableOf(of), 24, cluster, true)
			for _, e := range wrong {
				x := tableOf(of)
				x.L[place/8][place%8] = e
				checkRight(t, x, 24, cluster, false)
				checkRight(t, x, 4096, cluster, false)
			}
		}
	}
}

// 8.1: an entry is valid for clusters of some sizes only.
func TestRightOfEachKindForEachCluster(t *testing.T) {
	for cluster := range 7 {
		for size := range 7 {
			whole := sectors(size)
			checkRight(t, leaves(leafOf(zero)), 1, cluster, true)
			checkRight(t, leaves(leafOf(raw(2, whole))), 1, cluster, size == cluster)
			checkRight(t, leaves(leafOf(raw(65536-whole, whole))), 1, cluster, size == cluster)
			checkRight(t, leaves(leafOf(raw(65537-whole, whole))), 1, cluster, false)
			checkRight(t, leaves(leafOf(packed(2, whole, whole*16))), 1, cluster, size < cluster)
			checkRight(t, leaves(leafOf(zero, raw(2, whole), packed(9, 1, 1))), 3, cluster, size == cluster && cluster > 0)
		}
	}
}

// 8.1
func TestRightOfTablesOfNoKind(t *testing.T) {
	for _, x := range noTables() {
		for cluster := -1; cluster <= 7; cluster++ {
			for _, n := range []int{-1, 0, 1, 8, 9, 24, 4095, 4096, 4097, math.MaxInt} {
				checkRight(t, x, n, cluster, false)
			}
		}
	}
}

// 8.1
func TestRightOfAnyEntries(t *testing.T) {
	random := rand.New(rand.NewSource(8))
	for range 3000 {
		cluster := random.Intn(7)
		of := someEntries(random, 6, 60, cluster)
		x := tableOf(of)
		for n := range 65 {
			checkRight(t, x, n, cluster, n >= of.behind())
		}
		for other := range 7 {
			checkRight(t, x, 4096, other, other == cluster || of.validFor(other))
		}
	}
}
