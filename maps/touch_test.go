package maps

import (
	"fmt"
	"slices"
	"testing"

	"matryoshka/api"
)

// checkTouch holds Touch against the sets that it leaves.
func checkTouch(t *testing.T, l []api.Bitmap, x api.Span, sets ...[]api.Span) {
	t.Helper()
	wanted := slices.Clone(l)
	for i := range wanted {
		wanted[i].L = sets[i]
	}
	want(t, fmt.Sprintf("Touch(%+v, %v)", l, x), Touch(l, x), wanted)
}

// touched goes by the words of 13.2 and 4.1, one number at a time.
func touched(b api.Bitmap, x api.Span, base, end int) []api.Span {
	if !b.On {
		return b.L
	}
	in := numbersOf(b.L, base, end)
	if isList([]api.Span{x}) {
		for n := max(x.From, base); n < min(x.To, end); n++ {
			in[n] = true
		}
	}
	return spansOf(in, base, end)
}

// 13.2: each span and each small set, at both ends of the numbers, and sets that are not valid lists.
func TestTouchOfAllSmallSets(t *testing.T) {
	for _, base := range []int{0, most - 6} {
		for _, set := range append(allSets(base, base+6), noLists()...) {
			for from := base - 2; from <= base+8; from++ {
				for to := base - 2; to <= base+8; to++ {
					l := []api.Bitmap{on("a", set...), off("b", set...), on("a", set...), off("")}
					once := touched(l[0], s(from, to), max(base-2, 0), min(base+8, most))
					checkTouch(t, l, s(from, to), once, set, once, nil)
				}
			}
		}
	}
}

// 13.2: all bitmaps that are on, several of one name too, and none that is off.
func TestTouchOfSeveral(t *testing.T) {
	checkTouch(t, nil, s(0, 1))
	checkTouch(t, []api.Bitmap{}, s(0, 1))
	checkTouch(t, []api.Bitmap{off("a"), off("b", s(1, 2))}, s(2, 3), nil, []api.Span{s(1, 2)})
	for n := range 40 {
		l := full(n)
		var sets [][]api.Span
		for _, b := range l {
			sets = append(sets, touched(b, s(6, 20), 0, 200))
		}
		checkTouch(t, l, s(6, 20), sets...)
	}
	for _, l := range lists() {
		for _, x := range []api.Span{s(0, most), s(0, 1), s(most-1, most)} {
			for i, b := range Touch(l, x) {
				switch {
				case !b.On:
					want(t, "one that is off", b, l[i])
				case x == s(0, most):
					want(t, "one of all numbers", b.L, []api.Span{x})
				default:
					want(t, "whether there is the number", numbersOf(b.L, x.From, x.To)[x.From], true)
				}
				want(t, "what is on", b.On, l[i].On)
				want(t, "the name", b.Name, l[i].Name)
			}
		}
	}
}

// 13.2 with 4.1: a span that is not valid is an empty one, and a set that is not a valid list is empty.
func TestTouchOfNoSpans(t *testing.T) {
	for _, x := range noSpans() {
		for _, set := range [][]api.Span{nil, {s(0, 1)}, {s(2, 4), s(6, 8)}, {s(0, most)}, {s(most-1, most)}} {
			checkTouch(t, []api.Bitmap{on("a", set...), off("b", set...)}, x, set, set)
		}
		for _, bad := range noLists() {
			checkTouch(t, []api.Bitmap{on("a", bad...), off("b", bad...)}, x, nil, bad)
		}
	}
}

// 13.2 with 4.1: what is touched alone is in a set that was no valid list.
func TestTouchOfNoLists(t *testing.T) {
	for _, bad := range noLists() {
		for _, x := range []api.Span{s(0, 1), s(3, 5), s(0, most), s(most-1, most)} {
			checkTouch(t, []api.Bitmap{off("b", bad...), on("a", bad...)}, x, bad, []api.Span{x})
		}
	}
}
