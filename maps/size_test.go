package maps

import (
	"fmt"
	"slices"
	"testing"

	"matryoshka/api"
)

// checkSize holds Size against the sets that it leaves.
func checkSize(t *testing.T, l []api.Bitmap, was, now int, sets ...[]api.Span) {
	t.Helper()
	wanted := slices.Clone(l)
	for i := range wanted {
		wanted[i].L = sets[i]
	}
	want(t, fmt.Sprintf("Size(%+v, %d, %d)", l, was, now), Size(l, was, now), wanted)
}

// sized goes by the words of 13.2, one number at a time, if was and now are numbers of clusters.
func sized(b api.Bitmap, was, now, base, end int) []api.Span {
	in := numbersOf(b.L, base, end)
	for n := base; n < end; n++ {
		in[n] = in[n] && n < now || b.On && was <= n && n < now
	}
	return spansOf(in, base, end)
}

// 13.2: each small set, from and to each number of clusters, at both ends of the numbers.
func TestSizeOfAllSmallSets(t *testing.T) {
	for _, base := range []int{0, most - 5} {
		for _, set := range append(allSets(base, base+5), noLists()...) {
			l := []api.Bitmap{on("a", set...), off("b", set...), on("a", set...), off("a")}
			for was := base; was <= base+5; was++ {
				for now := base; now <= base+5; now++ {
					x, y := sized(l[0], was, now, base, base+5), sized(l[1], was, now, base, base+5)
					checkSize(t, l, was, now, x, y, x, nil)
				}
			}
		}
	}
}

// 13.2: fewer, as many, more; the spans reach across the new end, stand just ahead of it and begin just at it.
func TestSizes(t *testing.T) {
	set := []api.Span{s(0, 2), s(3, 5), s(7, 9)}
	l := []api.Bitmap{on("a", set...), off("b", set...)}
	for _, c := range []struct {
		was, now int
		on, off  []api.Span
	}{
		{9, 8, []api.Span{s(0, 2), s(3, 5), s(7, 8)}, []api.Span{s(0, 2), s(3, 5), s(7, 8)}},
		{9, 7, []api.Span{s(0, 2), s(3, 5)}, []api.Span{s(0, 2), s(3, 5)}},
		{9, 5, []api.Span{s(0, 2), s(3, 5)}, []api.Span{s(0, 2), s(3, 5)}},
		{9, 4, []api.Span{s(0, 2), s(3, 4)}, []api.Span{s(0, 2), s(3, 4)}},
		{9, 2, []api.Span{s(0, 2)}, []api.Span{s(0, 2)}},
		{9, 1, []api.Span{s(0, 1)}, []api.Span{s(0, 1)}},
		{9, 0, nil, nil},
		{9, 9, set, set},
		{5, 5, []api.Span{s(0, 2), s(3, 5)}, []api.Span{s(0, 2), s(3, 5)}},
		{0, 0, nil, nil},
		{9, 12, []api.Span{s(0, 2), s(3, 5), s(7, 12)}, set},
		{10, 12, []api.Span{s(0, 2), s(3, 5), s(7, 9), s(10, 12)}, set},
		{5, 8, []api.Span{s(0, 2), s(3, 8)}, []api.Span{s(0, 2), s(3, 5), s(7, 8)}},
		{6, 7, []api.Span{s(0, 2), s(3, 5), s(6, 7)}, []api.Span{s(0, 2), s(3, 5)}},
		{0, 4, []api.Span{s(0, 4)}, []api.Span{s(0, 2), s(3, 4)}},
		{0, 1, []api.Span{s(0, 1)}, []api.Span{s(0, 1)}},
		{2, most, []api.Span{s(0, most)}, set},
		{9, most, []api.Span{s(0, 2), s(3, 5), s(7, most)}, set},
		{most - 1, most, []api.Span{s(0, 2), s(3, 5), s(7, 9), s(most-1, most)}, set},
		{most, most, set, set},
		{most, 4, []api.Span{s(0, 2), s(3, 4)}, []api.Span{s(0, 2), s(3, 4)}},
		{most, 0, nil, nil},
	} {
		checkSize(t, l, c.was, c.now, c.on, c.off)
	}
}

// 13.2: was or now below 0 or beyond 2^30: nothing is changed, sets that are not valid lists neither.
func TestSizesThatMayNotBe(t *testing.T) {
	for _, l := range lists() {
		for _, bad := range []int{-1, -2, -1 << 31, -most, -1 << 63, most + 1, 1 << 31, 1 << 32, 1<<32 + 2, 1<<63 - 1} {
			for _, n := range []int{0, 1, 4, 8, most - 1, most, bad, -1, most + 1} {
				want(t, fmt.Sprintf("Size(%+v, %d, %d)", l, bad, n), Size(l, bad, n), l)
				want(t, fmt.Sprintf("Size(%+v, %d, %d)", l, n, bad), Size(l, n, bad), l)
			}
		}
	}
}

// 13.2 with 4.1: a set that is not a valid list is empty, whether numbers are removed, added, or neither.
func TestSizeOfNoLists(t *testing.T) {
	for _, bad := range noLists() {
		l := []api.Bitmap{on("a", bad...), off("b", bad...), on("c", s(1, 3))}
		checkSize(t, l, 4, 2, nil, nil, []api.Span{s(1, 2)})
		checkSize(t, l, 4, 4, nil, nil, []api.Span{s(1, 3)})
		checkSize(t, l, 4, 6, []api.Span{s(4, 6)}, nil, []api.Span{s(1, 3), s(4, 6)})
		checkSize(t, l, 0, 0, nil, nil, nil)
		checkSize(t, l, most, most, nil, nil, []api.Span{s(1, 3)})
		checkSize(t, l, 0, most, []api.Span{s(0, most)}, nil, []api.Span{s(0, most)})
	}
}

// 13.2: of lists of every kind, each bitmap by itself.
func TestSizeOfSeveral(t *testing.T) {
	want(t, "of none", Size(nil, 0, 4), nil)
	want(t, "of none", Size([]api.Bitmap{}, 4, 0), nil)
	for _, l := range append(lists(), full(40)) {
		for was := range 12 {
			for now := range 12 {
				var sets [][]api.Span
				for _, b := range l {
					sets = append(sets, sized(b, was, now, 0, 12))
				}
				checkSize(t, l, was, now, sets...)
			}
		}
	}
}
