package maps

import (
	"fmt"
	"slices"
	"testing"

	"matryoshka/api"
)

// withRoom is a list like l with spare capacity, in which there are marks.
func withRoom[T any](l []T, marks ...T) []T {
	return append(slices.Clone(l), marks...)[:len(l)]
}

// roomy is a list like l, whose lists are its own and all have spare capacity.
func roomy(l []api.Bitmap) []api.Bitmap {
	var out []api.Bitmap
	for _, b := range l {
		b.L = withRoom(b.L, s(83, 84), s(85, 86), s(87, 88))
		out = append(out, b)
	}
	return withRoom(out, on("spare", s(89, 90)), off("more"), on("a", s(91, 92)))
}

// whole tells all that the memory of a list holds, its spare capacity too.
func whole(l []api.Bitmap) string {
	var out []api.Bitmap
	for _, b := range l[:cap(l)] {
		b.L = b.L[:cap(b.L)]
		out = append(out, b)
	}
	return fmt.Sprintf("%+v", out)
}

// scribble writes over all that the memory of a list holds, and appends to it.
func scribble[T any](l []T, mark T) {
	for i := range l[:cap(l)] {
		l[:cap(l)][i] = mark
	}
	_ = append(l, mark, mark)
	_ = append(l[:0], mark)
}

// scribbleAll writes over all the memory of a list of bitmaps, that of their sets too.
func scribbleAll(l []api.Bitmap) {
	for _, b := range l[:cap(l)] {
		scribble(b.L, s(-1, -2))
	}
	scribble(l, on("scribbled", s(-3, -4)))
}

// checkApart is that sets share no memory: each keeps its own mark when all are filled with marks.
func checkApart(t *testing.T, l []api.Bitmap) {
	t.Helper()
	for i, b := range l {
		scribble(b.L, s(i, -i))
	}
	for i, b := range l {
		for _, x := range b.L[:cap(b.L)] {
			want(t, fmt.Sprintf("set %d of %d", i, len(l)), x, s(i, -i))
		}
	}
}

// memoryLists are lists of several kinds, one of which has sets in one memory.
func memoryLists() [][]api.Bitmap {
	one := []api.Span{s(0, 2), s(3, 5), s(8, 9)}
	shared := []api.Bitmap{on("a", one...), off("b", one...), on("x", one[:2]...), off("c", one[:0]...), on("e", one[1:]...)}
	return append(lists(), shared)
}

// spansOfCalls are spans of which each is joined, left alone, or of no meaning.
func spansOfCalls() []api.Span {
	return []api.Span{s(0, 1), s(1, 9), s(40, 41), s(0, most), s(3, 3), s(-1, 4)}
}

// changed are the lists that all calls return.
func changed(l []api.Bitmap) [][]api.Bitmap {
	var all [][]api.Bitmap
	for i, name := range []string{"a", "b", "c", "x", "", "m0", "m6", "new"} {
		r := call(l, name, "a", spansOfCalls()[i%6], 4, 3*i-1)
		all = append(all, r.add, r.drop, r.turnOn, r.turnOff, r.clear, r.merge, r.touch, r.size)
		for _, other := range []string{"b", "e", "x", "m3", name} {
			merged, _ := Merge(l, name, other)
			all = append(all, merged)
		}
	}
	for _, n := range []int{0, 1, 4, 5, 9, most, most + 1} {
		all = append(all, Size(l, n, n), Size(l, n, 5))
	}
	return all
}

func told(all [][]api.Bitmap) []string {
	var l []string
	for _, x := range all {
		l = append(l, fmt.Sprintf("%+v", x))
	}
	return l
}

// R3: neither what is handed in nor its spare capacity is changed.
func TestListsAreNotChanged(t *testing.T) {
	for _, given := range append(memoryLists(), full(40)) {
		l := roomy(given)
		before := whole(l)
		changed(l)
		want(t, "the list", whole(l), before)
		before = whole(given)
		changed(given)
		want(t, "the list without room", whole(given), before)
	}
}

// R3: what is written into a list later changes no result.
func TestListsAreNotKept(t *testing.T) {
	for _, given := range memoryLists() {
		l := roomy(given)
		all := changed(l)
		scribbleAll(l)
		want(t, "the results", told(all), told(changed(given)))
	}
}

// R3: writing into a result changes neither the argument nor another result.
func TestResultsAreNewMemory(t *testing.T) {
	for _, given := range memoryLists() {
		l := roomy(given)
		before, wanted := whole(l), told(changed(l))
		for i := range wanted {
			all := changed(l)
			scribbleAll(all[i])
			want(t, "the list", whole(l), before)
			want(t, "the other results", slices.Delete(told(all), i, i+1), slices.Delete(slices.Clone(wanted), i, i+1))
		}
	}
}

// R3: no two sets of one result share memory, behind Merge those of the two bitmaps neither.
func TestSetsOfOneResultShareNothing(t *testing.T) {
	for _, given := range memoryLists() {
		for _, l := range append(changed(roomy(given)), changed(given)...) {
			checkApart(t, l)
		}
	}
	sets := append(allSets(0, 5), append(noLists(), []api.Span{s(0, most)}, []api.Span{s(6, 8), s(20, 30), s(40, 41)})...)
	for _, set := range sets {
		for _, other := range sets {
			l := []api.Bitmap{on("a", withRoom(set, s(7, 8))...), off("b", withRoom(other, s(7, 8), s(9, 10))...)}
			merged, _ := Merge(l, "a", "b")
			checkApart(t, merged)
			checkApart(t, append(merged, l...))
		}
	}
}

// R3: a nil list and an empty one are equivalent.
func TestNilAndEmptyAreEquivalent(t *testing.T) {
	empty := []api.Span{}
	x := []api.Bitmap{on("a"), off("b"), on("c", s(1, 2))}
	y := []api.Bitmap{on("a", empty...), off("b", empty...), on("c", s(1, 2))}
	for _, pair := range [][2][]api.Bitmap{{x, y}, {nil, {}}, {x[:1], y[:1]}, {nil, y[:0]}} {
		want(t, "the results", told(changed(pair[1])), told(changed(pair[0])))
		for _, name := range names() {
			want(t, "the errors", call(pair[1], name, "c", s(1, 4), 1, 2).errnos, call(pair[0], name, "c", s(1, 4), 1, 2).errnos)
		}
	}
}

// R4: with an error, the list is its zero value.
func TestZeroValues(t *testing.T) {
	errors := 0
	for _, l := range append(memoryLists(), full(8), full(30)) {
		for _, name := range names() {
			for _, other := range names() {
				r := call(l, name, other, s(0, 1), 0, 1)
				for i, got := range [][]api.Bitmap{r.add, r.drop, r.turnOn, r.turnOff, r.clear, r.merge} {
					if r.errnos[i] != api.OK && got != nil {
						t.Errorf("%+v beside error %d of call %d", got, r.errnos[i], i)
					}
					errors += int(min(r.errnos[i], 1))
				}
			}
		}
	}
	want(t, "whether there were errors", errors > 1000, true)
}
