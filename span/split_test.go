package span

import (
	"math"
	"slices"
	"testing"

	"matryoshka/api"
)

func p(cluster, at, count int) api.Piece {
	return api.Piece{Cluster: cluster, At: at, Count: count}
}

// bySectors goes from sector to sector, each of which lies in one cluster.
func bySectors(at, n, cluster int) []api.Piece {
	size := 1
	for range cluster {
		size *= 2
	}
	var pieces []api.Piece
	for sector := at; sector < at+n; sector++ {
		last := len(pieces) - 1
		if last >= 0 && pieces[last].Cluster == sector/size {
			pieces[last].Count++
			continue
		}
		pieces = append(pieces, p(sector/size, sector%size, 1))
	}
	return pieces
}

// checkSplit holds the pieces, and the sum of their Counts (4.3), against what is wanted.
func checkSplit(t *testing.T, at, n, cluster int, want []api.Piece) {
	t.Helper()
	got, errno := Split(at, n, cluster)
	if errno != api.OK || !slices.Equal(got, want) {
		t.Errorf("Split(%d, %d, %d) = %v, %d, want %v", at, n, cluster, got, errno, want)
	}
	sum := 0
	for _, piece := range got {
		sum += piece.Count
	}
	if sum != n {
		t.Errorf("Split(%d, %d, %d) has %d sectors", at, n, cluster, sum)
	}
}

// 4.2
func TestSplit(t *testing.T) {
	for _, c := range []struct {
		at, n, cluster int
		want           []api.Piece
	}{
		{3, 4, 2, []api.Piece{p(0, 3, 1), p(1, 0, 3)}},
		// Nothing.
		{0, 0, 0, nil},
		{5, 0, 2, nil},
		{4096, 0, 6, nil},
		// Clusters of one sector.
		{5, 2, 0, []api.Piece{p(5, 0, 1), p(6, 0, 1)}},
		// Within one cluster, up to its end, a whole one.
		{9, 2, 2, []api.Piece{p(2, 1, 2)}},
		{9, 3, 2, []api.Piece{p(2, 1, 3)}},
		{8, 3, 2, []api.Piece{p(2, 0, 3)}},
		{8, 4, 2, []api.Piece{p(2, 0, 4)}},
		{64, 64, 6, []api.Piece{p(1, 0, 64)}},
		// Over several.
		{7, 2, 3, []api.Piece{p(0, 7, 1), p(1, 0, 1)}},
		{1, 9, 2, []api.Piece{p(0, 1, 3), p(1, 0, 4), p(2, 0, 2)}},
		{63, 66, 6, []api.Piece{p(0, 63, 1), p(1, 0, 64), p(2, 0, 1)}},
		{1, 7, 1, []api.Piece{p(0, 1, 1), p(1, 0, 2), p(2, 0, 2), p(3, 0, 2)}},
		// The last sector that may be asked, and what lies behind it.
		{4095, 1, 6, []api.Piece{p(63, 63, 1)}},
		{4096, 1, 6, []api.Piece{p(64, 0, 1)}},
		{4095, 2, 6, []api.Piece{p(63, 63, 1), p(64, 0, 1)}},
	} {
		checkSplit(t, c.at, c.n, c.cluster, c.want)
	}
}

// 4.2, 4.3
func TestSplitBySectors(t *testing.T) {
	for cluster := range api.MaxCluster + 1 {
		for at := range 140 {
			for n := range 140 {
				checkSplit(t, at, n, cluster, bySectors(at, n, cluster))
			}
		}
	}
}

// 4.2, 4.3
func TestSplitAtTheEdges(t *testing.T) {
	edges := []int{0, 1, 2, 63, 64, 65, 1000, 2047, 2048, 4000, 4031, 4032, 4033, api.MaxDisk - 1, api.MaxDisk}
	for cluster := range api.MaxCluster + 1 {
		for _, at := range edges {
			for _, n := range edges {
				checkSplit(t, at, n, cluster, bySectors(at, n, cluster))
			}
		}
	}
}

// 4.2, R1, R3, R4
func TestSplitOfWrongNumbers(t *testing.T) {
	check := func(at, n, cluster int) {
		t.Helper()
		if got, errno := Split(at, n, cluster); errno != api.ErrArg || len(got) != 0 {
			t.Errorf("Split(%d, %d, %d) = %v, %d", at, n, cluster, got, errno)
		}
	}
	numbers := []int{0, 1, 64, api.MaxDisk}
	clusters := []int{0, 1, api.MaxCluster}
	notNumbers := []int{-1, -2, -64, -api.MaxDisk, api.MaxDisk + 1, api.MaxDisk + 2, 2 * api.MaxDisk, 1 << 31, 1 << 32, 1<<32 + 1, math.MinInt, math.MaxInt}
	notClusters := []int{-1, -2, -6, api.MaxCluster + 1, api.MaxCluster + 2, 31, 32, 63, 64, 65, 256, 1 << 32, math.MinInt, math.MaxInt}
	for _, number := range numbers {
		for _, wrong := range notNumbers {
			for _, cluster := range clusters {
				check(number, wrong, cluster)
				check(wrong, number, cluster)
				check(wrong, wrong, cluster)
			}
			for _, cluster := range notClusters {
				check(number, wrong, cluster)
				check(wrong, number, cluster)
			}
		}
		for _, cluster := range notClusters {
			check(number, 0, cluster)
			check(number, number, cluster)
		}
	}
}

// R3
func TestPiecesAreNewMemory(t *testing.T) {
	for _, n := range []int{0, 1, 4, 9, 100} {
		first, _ := Split(3, n, 2)
		second, _ := Split(3, n, 2)
		_ = append(first, p(-1, -2, -3))
		first = first[:cap(first)]
		for i := range first {
			first[i] = p(-1, -2, -3)
		}
		if want := bySectors(3, n, 2); !slices.Equal(second, want) {
			t.Errorf("%v, want %v", second, want)
		}
		checkSplit(t, 3, n, 2, bySectors(3, n, 2))
	}
}
