package count

import (
	"math"
	"math/rand"
	"slices"
	"testing"
)

// isFree tells whether the sectors from s to s + n - 1 are all free; beyond the end they are.
func isFree(used []int, s, n int) bool {
	for sector := s; sector < s+n; sector++ {
		if sector < len(used) && used[sector] != 0 {
			return false
		}
	}
	return true
}

// freeOf asks each sector, one after the other; all numbers are small.
func freeOf(used []int, n, from, most int) (int, bool) {
	if n < 1 || from < 0 {
		return 0, false
	}
	for s := from; s+n <= most; s++ {
		if isFree(used, s, n) {
			return s, true
		}
	}
	return 0, false
}

func checkSame(t *testing.T, used []int, n, from, most int) {
	t.Helper()
	if want, ok := freeOf(used, n, from, most); ok {
		checkFree(t, used, n, from, most, want)
	} else {
		checkNoneFree(t, used, n, from, most)
	}
}

// 9.3: the example of the chapter.
func TestFreeOfTheExample(t *testing.T) {
	used := []int{1, 1, 0, 1}
	checkFree(t, used, 1, 0, 4096, 2)
	checkFree(t, used, 2, 0, 4096, 4)
}

// 9.3
func TestFreeOfSmallLists(t *testing.T) {
	for length := range 7 {
		for bits := range 1 << length {
			used := make([]int, length)
			for i := range used {
				used[i] = bits >> i & 1
			}
			for n := -1; n < length+3; n++ {
				for from := -1; from < length+3; from++ {
					for most := -2; most < length+6; most++ {
						checkSame(t, used, n, from, most)
					}
				}
			}
		}
	}
}

// 9.3: whatever a count is, it is 0 or not.
func TestFreeOfOtherCounts(t *testing.T) {
	for _, count := range slices.Concat(farBelow, farBeyond, []int{-2, -1, 1, 2, 255, 256, 257}) {
		used := []int{0, count, 0, 0, count, 0}
		checkFree(t, used, 1, 0, 10, 0)
		checkFree(t, used, 2, 0, 10, 2)
		checkFree(t, used, 3, 0, 10, 5)
		checkFree(t, used, 1, 1, 10, 2)
		checkNoneFree(t, used, 1, 4, 5)
	}
}

// 9.3: nil, all 0, no 0.
func TestFreeOfEqualCounts(t *testing.T) {
	for _, used := range [][]int{nil, {}, make([]int, 0, 9), make([]int, 1), make([]int, 20), []int{1, 1, 1, 1}[:0]} {
		for from := range 25 {
			for n := 1; n < 25; n++ {
				checkFree(t, used, n, from, from+n, from)
				checkFree(t, used, n, from, from+n+1, from)
				checkFree(t, used, n, from, math.MaxInt, from)
				checkNoneFree(t, used, n, from, from+n-1)
			}
		}
	}
	for length := 1; length < 20; length++ {
		used := slices.Repeat([]int{3}, length)
		for from := range 25 {
			for n := 1; n < 25; n++ {
				want := max(from, length)
				checkFree(t, used, n, from, want+n, want)
				checkNoneFree(t, used, n, from, want+n-1)
			}
		}
	}
}

// 9.3
func TestFreeOfNs(t *testing.T) {
	used := []int{1, 0, 0, 1}
	for _, n := range slices.Concat(farBelow, []int{-3, -2, -1, 0}) {
		for _, from := range []int{0, 1, 3, 4, 5, math.MaxInt} {
			for _, most := range []int{math.MinInt, -1, 0, 1, 9, math.MaxInt} {
				checkNoneFree(t, used, n, from, most)
				checkNoneFree(t, nil, n, from, most)
			}
		}
	}
	checkFree(t, used, 1, 0, 99, 1)
	checkFree(t, used, 2, 0, 99, 1)
	checkFree(t, used, 3, 0, 99, 4)
	checkFree(t, nil, math.MaxInt, 0, math.MaxInt, 0)
	checkNoneFree(t, nil, math.MaxInt, 1, math.MaxInt)
	checkNoneFree(t, used, math.MaxInt, 0, math.MaxInt)
	checkNoneFree(t, used, math.MaxInt-3, 0, math.MaxInt)
	checkFree(t, used, math.MaxInt-4, 0, math.MaxInt, 4)
	checkNoneFree(t, used, math.MaxInt, 0, math.MinInt)
	checkNoneFree(t, used, math.MaxInt, math.MaxInt, math.MaxInt)
	checkNoneFree(t, used, 1, math.MaxInt, math.MinInt)
}

// 9.3
func TestFreeOfFroms(t *testing.T) {
	used := []int{0, 0, 1, 0, 1}
	for _, from := range slices.Concat(farBelow, []int{-3, -2, -1}) {
		for _, most := range []int{math.MinInt, -1, 0, 1, 9, math.MaxInt} {
			checkNoneFree(t, used, 1, from, most)
			checkNoneFree(t, nil, 1, from, most)
		}
	}
	for from, want := range []int{0, 1, 3, 3, 5, 5, 6, 7} {
		checkFree(t, used, 1, from, 99, want)
	}
	for from, want := range []int{0, 5, 5, 5, 5, 5, 6, 7} {
		checkFree(t, used, 2, from, 99, want)
	}
	for _, from := range farBeyond {
		if from < math.MaxInt {
			checkFree(t, used, 1, from, from+1, from)
			checkFree(t, used, 1, from, math.MaxInt, from)
		}
		checkNoneFree(t, used, 1, from, from)
		checkNoneFree(t, used, 1, from, 6)
		checkNoneFree(t, used, 2, from, -1)
		checkFree(t, used, math.MaxInt-from+1, from-1, math.MaxInt, from-1)
		checkNoneFree(t, used, math.MaxInt-from+1, from, math.MaxInt)
	}
}

// 9.3
func TestFreeOfMosts(t *testing.T) {
	used := []int{1, 0, 1, 0, 0, 1}
	for _, most := range slices.Concat(farBelow, []int{-2, -1, 0}) {
		for _, from := range []int{0, 1, 3, 6, 7, math.MaxInt} {
			for _, n := range []int{1, 2, 9, math.MaxInt} {
				checkNoneFree(t, used, n, from, most)
				checkNoneFree(t, nil, n, from, most)
			}
		}
	}
	for n, s := range map[int]int{1: 1, 2: 3, 3: 6, 4: 6} {
		checkFree(t, used, n, 0, math.MaxInt, s)
		checkFree(t, used, n, 0, s+n+1, s)
		checkFree(t, used, n, 0, s+n, s)
		checkNoneFree(t, used, n, 0, s+n-1)
		checkNoneFree(t, used, n, 0, 0)
		checkNoneFree(t, used, n, 0, 1)
	}
}

// 9.3: a free place that begins within the list and ends beyond it.
func TestFreeOfWhatEndsBeyondTheList(t *testing.T) {
	used := []int{0, 1, 0, 0}
	checkFree(t, used, 2, 0, 99, 2)
	for n := 3; n < 20; n++ {
		checkFree(t, used, n, 0, 99, 2)
		checkFree(t, used, n, 0, 2+n, 2)
		checkFree(t, used, n, 3, 3+n, 3)
		checkNoneFree(t, used, n, 0, 1+n)
	}
}

// 9.3: the first of several, not the one that fits best.
func TestFreeOfSeveral(t *testing.T) {
	used := []int{1, 0, 1, 0, 0, 0, 1, 0, 0, 1, 0, 1}
	checkFree(t, used, 1, 0, 99, 1)
	checkFree(t, used, 2, 0, 99, 3)
	checkFree(t, used, 3, 0, 99, 3)
	checkFree(t, used, 4, 0, 99, 12)
	checkFree(t, used, 2, 4, 99, 4)
	checkFree(t, used, 2, 5, 99, 7)
	checkFree(t, used, 1, 8, 99, 8)
	checkFree(t, used, 1, 9, 99, 10)
}

// 9.3
func TestFreeOfManyLists(t *testing.T) {
	random := rand.New(rand.NewSource(3))
	for range 30000 {
		used := make([]int, random.Intn(60))
		seldom := 1 + random.Intn(8)
		for i := range used {
			if random.Intn(seldom) == 0 {
				used[i] = random.Intn(5) - 2
			}
		}
		checkSame(t, used, random.Intn(12)-1, random.Intn(70)-2, random.Intn(90)-3)
	}
}

// 9.3: one way through the list is enough.
func TestFreeOfLongLists(t *testing.T) {
	used := make([]int, 1<<22)
	for i := range used {
		used[i] = i / 2 % 2
	}
	checkFree(t, used, 2, 0, 1<<22, 0)
	checkFree(t, used, 2, 1, 1<<22, 4)
	checkFree(t, used, 3, 0, math.MaxInt, 1<<22)
	checkFree(t, used, 1<<21, 1, math.MaxInt, 1<<22)
	checkNoneFree(t, used, 3, 0, 1<<22+2)
	used[1<<22-1] = 0
	checkFree(t, make([]int, 1<<22), 1<<21, 5, math.MaxInt, 5)
	checkFree(t, used, 1<<30, 0, math.MaxInt, 1<<22-1)
}

// 9.3: what stands in the spare capacity of a list does not count.
func TestFreeOfSpareCapacity(t *testing.T) {
	room := []int{1, 0, 1, 1, 1, 1}
	for length := range 7 {
		checkSame(t, room[:length], 1, 0, 99)
		checkSame(t, room[:length], 2, 0, 99)
		checkSame(t, room[:length], 1, length, length+1)
	}
}
