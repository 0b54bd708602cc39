package entry

import (
	"math"
	"testing"

	"matryoshka/api"
)

func checkMay(t *testing.T, e api.Entry, cluster int, want bool) {
	t.Helper()
	if got := May(e, cluster); got != want {
		t.Errorf("May(%+v, %d) = %v", e, cluster, got)
	}
}

func raw(start, count int, sum uint32) api.Entry {
	return api.Entry{Kind: api.EntryRaw, Start: start, Count: count, Sum: sum}
}

func packed(start, count, size int, sum uint32) api.Entry {
	return api.Entry{Kind: api.EntryPacked, Start: start, Count: count, Size: size, Sum: sum}
}

// sectors are those of a cluster, by doubling.
func sectors(cluster int) int {
	n := 1
	for range cluster {
		n *= 2
	}
	return n
}

// oneOfEach are entries of each kind that are valid for clusters of this size.
func oneOfEach(cluster int) []api.Entry {
	all := []api.Entry{{}, {Kind: api.EntryZero}, raw(2, sectors(cluster), 7)}
	if cluster > 0 {
		all = append(all, packed(2, 1, 16, 7))
	}
	return all
}

var noClusters = []int{-1, -2, -6, -64, math.MinInt, math.MinInt + 1, math.MinInt + 6, 7, 8, 62, 63, 64, 65, 70, 256, 1 << 32, 1<<32 + 3, math.MaxInt}

// 7.1: each kind at each cluster, from just below the bounds to just above them.
func TestMayOfEachKind(t *testing.T) {
	for cluster := -1; cluster <= api.MaxCluster+1; cluster++ {
		within := 0 <= cluster && cluster <= 6
		checkMay(t, api.Entry{}, cluster, within)
		checkMay(t, api.Entry{Kind: api.EntryZero}, cluster, within)
		checkMay(t, raw(2, sectors(cluster), 0), cluster, within)
		checkMay(t, raw(1000, sectors(cluster), 0xa1b2c3d4), cluster, within)
		checkMay(t, packed(2, 1, 16, 0), cluster, within && cluster > 0)
		checkMay(t, packed(1000, 1, 1, 0xa1b2c3d4), cluster, within && cluster > 0)
	}
}

// 7.1
func TestMayOfNoCluster(t *testing.T) {
	for _, cluster := range noClusters {
		for size := range 7 {
			for _, e := range oneOfEach(size) {
				checkMay(t, e, cluster, false)
			}
		}
		checkMay(t, raw(2, 128, 0), cluster, false)
		checkMay(t, raw(2, 0, 0), cluster, false)
		checkMay(t, packed(2, 64, 1024, 0), cluster, false)
	}
}

// 7.1: what is valid of another kind is not valid of a kind that is none.
func TestMayOfNoKind(t *testing.T) {
	for _, kind := range []int{-1, -2, -255, -256, math.MinInt, math.MinInt + 1, math.MinInt + 2, 4, 5, 255, 256, 257, 258, 259, 1 << 32, 1<<32 + 2, 1<<32 + 3, math.MaxInt} {
		for cluster := range 7 {
			for _, e := range oneOfEach(cluster) {
				e.Kind = kind
				checkMay(t, e, cluster, false)
			}
		}
	}
}

// 7.1: the entries of one kind are no entries of another one.
func TestMayOfAnotherKind(t *testing.T) {
	for cluster := range 7 {
		for i, e := range oneOfEach(cluster) {
			for kind := range 4 {
				if kind != i && (kind > 1 || i > 1) {
					e.Kind = kind
					checkMay(t, e, cluster, false)
				}
			}
		}
	}
}

// 7.1
func TestMayOfContentsWithoutSectors(t *testing.T) {
	for cluster := range 7 {
		for kind := range 2 {
			checkMay(t, api.Entry{Kind: kind}, cluster, true)
			for _, n := range []int{1, -1, 2, 16, sectors(cluster), 256, 65536, 1 << 32, math.MinInt, math.MaxInt} {
				checkMay(t, api.Entry{Kind: kind, Start: n}, cluster, false)
				checkMay(t, api.Entry{Kind: kind, Count: n}, cluster, false)
				checkMay(t, api.Entry{Kind: kind, Size: n}, cluster, false)
				checkMay(t, api.Entry{Kind: kind, Start: n, Count: n, Size: n}, cluster, false)
			}
			for _, sum := range sums[1:] {
				checkMay(t, api.Entry{Kind: kind, Sum: sum}, cluster, false)
			}
		}
	}
}

// 7.1: the bounds as numbers.
func TestMayOfRawEntries(t *testing.T) {
	for _, c := range []struct {
		start, count, cluster int
		want                  bool
	}{
		{2, 1, 0, true}, {1, 1, 0, false}, {0, 1, 0, false}, {-1, 1, 0, false}, {3, 1, 0, true},
		{2, 64, 6, true}, {1, 64, 6, false}, {0, 64, 6, false}, {-64, 64, 6, false},
		{2, 0, 0, false}, {2, 2, 0, false}, {2, -1, 0, false}, {2, 1, 1, false}, {2, 2, 1, true}, {2, 3, 1, false},
		{2, 7, 3, false}, {2, 8, 3, true}, {2, 9, 3, false}, {2, 3, 3, false}, {2, 4, 3, false}, {2, 16, 3, false},
		{2, 63, 6, false}, {2, 65, 6, false}, {2, 128, 6, false}, {2, 6, 6, false},
		{65535, 1, 0, true}, {65536, 1, 0, false}, {65537, 1, 0, false}, {65534, 1, 0, true},
		{65528, 8, 3, true}, {65529, 8, 3, false}, {65535, 8, 3, false}, {65536, 8, 3, false},
		{65472, 64, 6, true}, {65473, 64, 6, false}, {65471, 64, 6, true},
	} {
		for _, sum := range sums {
			checkMay(t, raw(c.start, c.count, sum), c.cluster, c.want)
			e := raw(c.start, c.count, sum)
			for _, size := range []int{1, -1, 16, c.count, c.count * 16, c.count*16 - 1, 256, 1 << 32, math.MinInt, math.MaxInt} {
				if e.Size = size; size != 0 {
					checkMay(t, e, c.cluster, false)
				}
			}
		}
	}
}

// 7.1: each count, each cluster, at both ends of a file.
func TestMayOfEachCountOfARawEntry(t *testing.T) {
	for cluster := range 7 {
		for count := -2; count <= 130; count++ {
			whole := count == sectors(cluster)
			checkMay(t, raw(2, count, 1), cluster, whole)
			checkMay(t, raw(1, count, 1), cluster, false)
			checkMay(t, raw(65536-count, count, 1), cluster, whole)
			checkMay(t, raw(65537-count, count, 1), cluster, false)
		}
	}
}

// 7.1: the bounds as numbers.
func TestMayOfPackedEntries(t *testing.T) {
	for _, c := range []struct {
		start, count, size, cluster int
		want                        bool
	}{
		{2, 1, 1, 1, true}, {2, 1, 0, 1, false}, {2, 1, -1, 1, false}, {2, 1, 16, 1, true}, {2, 1, 17, 1, false},
		{2, 1, 1, 0, false}, {2, 1, 16, 0, false}, {2, 0, 0, 0, false}, {2, 0, -15, 0, false}, {2, 0, 1, 0, false},
		{2, 0, 0, 1, false}, {2, 0, -1, 1, false}, {2, 0, -15, 1, false}, {2, 0, -16, 1, false}, {2, 0, 1, 6, false},
		{2, -1, -16, 6, false}, {2, -1, -31, 6, false},
		{2, 2, 17, 1, false}, {2, 2, 32, 1, false}, {2, 3, 48, 1, false}, {2, 2, 17, 2, true}, {2, 2, 16, 2, false},
		{2, 2, 32, 2, true}, {2, 2, 33, 2, false}, {2, 3, 33, 2, true}, {2, 3, 32, 2, false}, {2, 3, 48, 2, true},
		{2, 3, 49, 2, false}, {2, 4, 49, 2, false}, {2, 4, 64, 2, false}, {2, 5, 65, 2, false},
		{2, 63, 993, 6, true}, {2, 63, 992, 6, false}, {2, 63, 1008, 6, true}, {2, 63, 1009, 6, false},
		{2, 64, 1009, 6, false}, {2, 64, 1024, 6, false}, {2, 65, 1040, 6, false}, {2, 6, 96, 6, true},
		{1, 1, 1, 1, false}, {0, 1, 1, 1, false}, {-1, 1, 1, 1, false}, {3, 1, 1, 1, true}, {1, 63, 1000, 6, false},
		{65535, 1, 1, 1, true}, {65536, 1, 1, 1, false}, {65537, 1, 1, 1, false},
		{65473, 63, 1000, 6, true}, {65474, 63, 1000, 6, false}, {65472, 63, 1000, 6, true},
		{65533, 3, 40, 5, true}, {65534, 3, 40, 5, false},
	} {
		for _, sum := range sums {
			checkMay(t, packed(c.start, c.count, c.size, sum), c.cluster, c.want)
		}
	}
}

// 7.1: each count and each size of each cluster: the sectors are as many as the bytes need, by adding one after another.
func TestMayOfEachSizeOfAPackedEntry(t *testing.T) {
	for size := -40; size <= 1100; size++ {
		need := 0
		for room := 0; room < size; room += 16 {
			need++
		}
		for count := -2; count <= 66; count++ {
			for cluster := range 7 {
				want := size > 0 && count == need && count < sectors(cluster)
				checkMay(t, packed(2, count, size, 1), cluster, want)
				checkMay(t, packed(65536-count, count, size, 1), cluster, want)
				if want {
					checkMay(t, packed(1, count, size, 1), cluster, false)
					checkMay(t, packed(65537-count, count, size, 1), cluster, false)
				}
			}
		}
	}
}

// far are numbers that no number of an entry, and no cluster, may be; sums and products with them wrap round.
var far = []int{
	math.MinInt, math.MinInt + 1, math.MinInt + 2, math.MinInt + 64, math.MinInt + 65536, -1 << 60, -1<<60 + 1, -1<<60 + 2,
	-1 << 32, -1<<32 + 1, -1<<32 + 2, -1<<31 - 1, -1 << 31, -65536, -65535, -65534, -1000, -1,
	65536, 65537, 65538, 1<<31 - 1, 1 << 31, 1 << 32, 1<<32 + 1, 1<<32 + 2, 1<<32 + 8, 1<<32 + 64, 1 << 59, 1 << 60, 1<<60 + 1, 1<<60 + 2,
	math.MaxInt - 65536, math.MaxInt - 64, math.MaxInt - 8, math.MaxInt - 2, math.MaxInt - 1, math.MaxInt,
}

// 7.1, R1
func TestMayOfNumbersFarOutside(t *testing.T) {
	for cluster := range 7 {
		for _, e := range oneOfEach(cluster) {
			for _, n := range far {
				start, count, size, kind := e, e, e, e
				start.Start, count.Count, size.Size, kind.Kind = n, n, n, n
				for _, x := range []api.Entry{start, count, size, kind} {
					checkMay(t, x, cluster, false)
				}
				checkMay(t, e, n, false)
			}
		}
	}
}

// 7.1, R1: several fields at once, so that one makes up for another where a sum wraps round.
func TestMayOfSeveralNumbersFarOutside(t *testing.T) {
	for _, a := range far {
		for _, b := range far {
			for kind := range 4 {
				checkMay(t, api.Entry{Kind: kind, Start: a, Count: b, Size: b * 16}, 6, false)
				checkMay(t, api.Entry{Kind: kind, Start: a, Count: 65536 - a, Size: b}, 6, false)
				checkMay(t, api.Entry{Kind: kind, Start: 2, Count: a, Size: (a-1)*16 + 1}, 6, false)
				checkMay(t, api.Entry{Kind: kind, Start: 65536 - b, Count: b, Size: a}, 6, false)
			}
		}
	}
}
