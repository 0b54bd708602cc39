package maps

import (
	"fmt"
	"testing"

	"matryoshka/api"
)

// checkMerge holds Merge against the set that the bitmap at a place has behind it.
func checkMerge(t *testing.T, l []api.Bitmap, name, other string, place int, set []api.Span) {
	t.Helper()
	got, errno := Merge(l, name, other)
	want(t, fmt.Sprintf("Merge(%+v, %q, %q)", l, name, other), got, changedAt(l, place, func(b *api.Bitmap) { b.L = set }))
	want(t, "its error", errno, api.OK)
}

// union goes by the words of 13.1 and 4.1, one number at a time.
func union(set, other []api.Span, base, end int) []api.Span {
	if len(other) == 0 || !isList(other) {
		return set
	}
	in := numbersOf(set, base, end)
	for n := range numbersOf(other, base, end) {
		in[n] = true
	}
	return spansOf(in, base, end)
}

// 13.1: each two of all small sets, at both ends of the numbers, and of sets that are not valid lists.
func TestMergeOfAllSmallSets(t *testing.T) {
	for _, base := range []int{0, most - 6} {
		sets := append(allSets(base, base+6), noLists()...)
		for i, a := range sets {
			for j, b := range sets {
				l := []api.Bitmap{off("x", s(1, 2)), {Name: "a", On: i%2 == 0, L: a}, {Name: "b", On: j%2 == 0, L: b}, on("y", s(3, 3))}
				checkMerge(t, l, "a", "b", 1, union(a, b, base, base+6))
				checkMerge(t, l, "b", "a", 2, union(b, a, base, base+6))
			}
		}
	}
}

// 13.1: of long lists.
func TestMergeOfLongSets(t *testing.T) {
	var even, odd, wide, gaps []api.Span
	for i := range 1000 {
		even, odd = append(even, s(4*i, 4*i+1)), append(odd, s(4*i+2, 4*i+3))
		wide, gaps = append(wide, s(4*i, 4*i+3)), append(gaps, s(4*i+3, 4*i+4))
	}
	l := []api.Bitmap{on("even", even...), off("odd", odd...), on("wide", wide...), off("gaps", gaps...), on("all", s(0, most))}
	checkMerge(t, l, "even", "odd", 0, union(even, odd, 0, 5000))
	checkMerge(t, l, "odd", "even", 1, union(even, odd, 0, 5000))
	checkMerge(t, l, "wide", "odd", 2, wide)
	checkMerge(t, l, "odd", "wide", 1, wide)
	checkMerge(t, l, "wide", "gaps", 2, []api.Span{s(0, 4000)})
	checkMerge(t, l, "all", "wide", 4, []api.Span{s(0, most)})
	checkMerge(t, l, "wide", "all", 2, []api.Span{s(0, most)})
}

// 13.1: if the set of the other is not a valid list, nothing is added, not even the spans of it that are valid; and if
// it is, it is added to one that is not as to an empty one.
func TestMergeOfNoLists(t *testing.T) {
	for _, bad := range noLists() {
		for _, good := range [][]api.Span{nil, {s(0, 1)}, {s(2, 4), s(6, 8)}, {s(0, most)}} {
			l := []api.Bitmap{on("good", good...), off("bad", bad...), off("worse", s(0, 1), s(5, 4))}
			checkMerge(t, l, "good", "bad", 0, good)
			checkMerge(t, l, "worse", "bad", 2, []api.Span{s(0, 1), s(5, 4)})
			checkMerge(t, l, "bad", "bad", 1, bad)
			if len(good) > 0 {
				checkMerge(t, l, "bad", "good", 1, good)
			} else {
				checkMerge(t, l, "bad", "good", 1, bad)
			}
		}
	}
}

// 13.1: with itself.
func TestMergeOfOneBitmap(t *testing.T) {
	for _, l := range lists() {
		for place, b := range l {
			if placeIn(l, b.Name) == place {
				checkMerge(t, l, b.Name, b.Name, place, b.L)
			}
		}
	}
}

// 13.1: the first of several of one name counts, for both.
func TestMergeOfTheFirstOfOneName(t *testing.T) {
	l := []api.Bitmap{off("b", s(0, 1)), on("a", s(2, 3)), off("a", s(4, 5)), on("b", s(6, 7)), off("c", s(7, 3)), on("c", s(8, 9))}
	checkMerge(t, l, "a", "b", 1, []api.Span{s(0, 1), s(2, 3)})
	checkMerge(t, l, "b", "a", 0, []api.Span{s(0, 1), s(2, 3)})
	checkMerge(t, l, "a", "a", 1, []api.Span{s(2, 3)})
	checkMerge(t, l, "a", "c", 1, []api.Span{s(2, 3)})
	checkMerge(t, l, "c", "b", 4, []api.Span{s(0, 1)})
}

// 13.1: ErrName if there is no bitmap of the one name, of the other, or of both.
func TestMergeOfNamesThatNoBitmapHas(t *testing.T) {
	for _, l := range lists() {
		for _, name := range names() {
			for _, other := range names() {
				got, errno := Merge(l, name, other)
				if placeIn(l, name) >= 0 && placeIn(l, other) >= 0 {
					want(t, "the error", errno, api.OK)
					want(t, "how many", len(got), len(l))
					continue
				}
				want(t, fmt.Sprintf("Merge(%+v, %q, %q)", l, name, other), errno, api.ErrName)
				want(t, "its list", got, nil)
			}
		}
	}
}
