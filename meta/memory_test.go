package meta

import (
	"bytes"
	"fmt"
	"reflect"
	"slices"
	"testing"

	"matryoshka/api"
)

// withRoom is a list like l with spare capacity, in which there are marks.
func withRoom[T any](l []T, marks ...T) []T {
	return append(slices.Clone(l), marks...)[:len(l)]
}

func roomyTable(t api.Table) api.Table {
	var out [][]api.Entry
	for _, leaf := range t.L {
		out = append(out, withRoom(leaf, raw(2, 1), raw(3, 1)))
	}
	return api.Table{L: withRoom(out, leafOf(raw(4, 1)), nil)}
}

// roomy is a meta like m, whose lists are its own and all have spare capacity.
func roomy(m api.Meta) api.Meta {
	m.T = roomyTable(m.T)
	m.Shots = withRoom(m.Shots, api.Shot{Name: "spare"}, api.Shot{Name: "shots", T: at(0, zero)})
	for i, x := range m.Shots {
		m.Shots[i].T = roomyTable(x.T)
	}
	m.Maps = withRoom(m.Maps, on("spare", s(1, 2)), off("bitmaps"))
	for i, x := range m.Maps {
		m.Maps[i].L = withRoom(x.L, s(81, 82), s(83, 84))
	}
	m.Counts = withRoom(m.Counts, 91, 92, 93)
	return m
}

func wholeTable(t api.Table) string {
	var out [][]api.Entry
	for _, leaf := range t.L[:cap(t.L)] {
		out = append(out, leaf[:cap(leaf)])
	}
	return fmt.Sprintf("%+v", out)
}

// whole tells all that the memory of a meta holds, its spare capacity too.
func whole(m api.Meta) string {
	told := fmt.Sprint(m.Cluster, m.Size, m.Back, wholeTable(m.T), m.Counts[:cap(m.Counts)])
	for _, x := range m.Shots[:cap(m.Shots)] {
		told += fmt.Sprint(x.Name, x.Size, wholeTable(x.T))
	}
	for _, x := range m.Maps[:cap(m.Maps)] {
		told += fmt.Sprint(x.Name, x.On, x.L[:cap(x.L)])
	}
	return told
}

// scribble writes over all that the memory of a list holds, and appends to it.
func scribble[T any](l []T, mark T) {
	for i := range l[:cap(l)] {
		l[:cap(l)][i] = mark
	}
	_ = append(l, mark, mark)
	_ = append(l[:0], mark)
}

// tablesOf are all tables of a meta.
func tablesOf(m api.Meta) []api.Table {
	all := []api.Table{m.T}
	for _, x := range m.Shots[:cap(m.Shots)] {
		all = append(all, x.T)
	}
	return all
}

// leavesOf are the leaves of all tables of a meta.
func leavesOf(m api.Meta) [][]api.Entry {
	var all [][]api.Entry
	for _, x := range tablesOf(m) {
		all = append(all, x.L[:cap(x.L)]...)
	}
	return all
}

// setsOf are the sets of all bitmaps of a meta.
func setsOf(m api.Meta) [][]api.Span {
	var all [][]api.Span
	for _, x := range m.Maps[:cap(m.Maps)] {
		all = append(all, x.L)
	}
	return all
}

// checkApart is that lists share no memory: each keeps its own mark when all are filled with marks.
func checkApart[T any](t *testing.T, what string, lists [][]T, mark func(k int) T) {
	t.Helper()
	for k, l := range lists {
		scribble(l, mark(k))
	}
	for k, l := range lists {
		for _, x := range l[:cap(l)] {
			want(t, fmt.Sprint(what, " ", k), x, mark(k))
		}
	}
}

// scribbleAll writes over all the memory of a meta.
func scribbleAll(m api.Meta) {
	for _, leaf := range leavesOf(m) {
		scribble(leaf, raw(3, 3))
	}
	for _, set := range setsOf(m) {
		scribble(set, s(7, -7))
	}
	for _, x := range tablesOf(m) {
		scribble(x.L, leafOf(raw(4, 4)))
	}
	scribble(m.Shots, api.Shot{Name: "scribbled"})
	scribble(m.Maps, on("scribbled", s(-3, -4)))
	scribble(m.Counts, -5)
}

// memoryMetas are metas of several kinds, some of them not valid, and one whose lists are all in one memory.
func memoryMetas() []api.Meta {
	leaf, l := leafOf(raw(2, 1), zero), []api.Span{s(0, 2), s(3, 5), s(8, 9)}
	x := leaves(leaf, nil, leaf)
	shared := api.Meta{
		Size: 30, T: x, Shots: []api.Shot{{Name: "a", Size: 24, T: x}, {Name: "b", Size: 8, T: leaves(x.L[0])}},
		Maps: []api.Bitmap{on("a", l...), off("b", l...), on("c", l[:2]...), off("d", l[1:]...)}, Counts: same(9, 1),
	}
	bad := small()
	bad.Counts[3] = -1
	return append(metas()[:14], shared, bad, api.Meta{Cluster: 9, T: x, Counts: []int{5}}, api.Meta{Shots: shotsOf(9), Maps: mapsOf(9)})
}

// R3: neither what is handed in nor its spare capacity is changed.
func TestMetasAreNotChanged(t *testing.T) {
	for _, given := range memoryMetas() {
		for _, m := range []api.Meta{given, roomy(given)} {
			before := whole(m)
			Right(m)
			Put(m)
			want(t, "the meta", whole(m), before)
		}
	}
}

// R3: the bytes that Put returns are its own, and so are those of a later call.
func TestEncodingsAreNewMemory(t *testing.T) {
	for _, given := range memoryMetas() {
		m := roomy(given)
		before := whole(m)
		first, errno := Put(m)
		second, _ := Put(m)
		wanted := slices.Clone(second)
		if errno == api.OK {
			want(t, "the encoding", second, bytesOf(given))
		}
		scribble(first, 0xaa)
		want(t, "the second", second, wanted)
		want(t, "the meta", whole(m), before)
		third, _ := Put(m)
		scribbleAll(m)
		want(t, "the third", third, wanted)
	}
}

// R3: the bytes that Get is handed are neither changed nor kept.
func TestBytesAreNeitherChangedNorKept(t *testing.T) {
	for _, m := range append(memoryMetas(), metas()[14:]...) {
		wanted := bytesOf(m)
		b := withRoom(wanted, 1, 2, 3, 4)
		before := slices.Clone(b[:cap(b)])
		got, errno := Get(b)
		want(t, "the bytes", b[:cap(b)], before)
		told := whole(got)
		scribble(b, 0xbb)
		want(t, "the meta", whole(got), told)
		if errno == api.OK {
			want(t, "its bytes", bytes.Equal(bytesOf(got), wanted), true)
		}
	}
}

// R3: writing into a meta that Get has returned changes nothing of the bytes, nor of another one.
func TestMetasOfGetAreNewMemory(t *testing.T) {
	for _, m := range metas() {
		b := bytesOf(m)
		wanted := slices.Clone(b)
		first, errno := Get(b)
		want(t, "the error", errno, api.OK)
		second, _ := Get(b)
		scribbleAll(first)
		want(t, "the bytes", bytes.Equal(b, wanted), true)
		want(t, "the second", bytes.Equal(bytesOf(second), wanted), true)
		third, _ := Get(b)
		want(t, "the third", bytes.Equal(bytesOf(third), wanted), true)
	}
}

// R3: no two lists of one result share memory, even if what was encoded did.
func TestListsOfOneMetaShareNothing(t *testing.T) {
	for _, m := range append(memoryMetas()[:15], metas()...) {
		got, errno := Get(bytesOf(m))
		want(t, "the error", errno, api.OK)
		checkApart(t, "leaf", leavesOf(got), func(k int) api.Entry { return raw(k, k) })
		checkApart(t, "set", setsOf(got), func(k int) api.Span { return s(k, -k) })
		var tables [][][]api.Entry
		for _, x := range tablesOf(got) {
			tables = append(tables, x.L)
		}
		checkApart(t, "table", tables, func(k int) []api.Entry { return leafOf(raw(k, k)) })
	}
}

// R3: a nil list and an empty one are equivalent.
func TestNilAndEmptyAreEquivalent(t *testing.T) {
	x := api.Meta{Size: 20, T: leaves(nil, leafOf(zero)), Shots: []api.Shot{{Name: "s"}}, Maps: []api.Bitmap{on("m")}}
	y := api.Meta{Size: 20, T: leaves([]api.Entry{}, leafOf(zero)), Shots: []api.Shot{{Name: "s", T: leaves()}}, Maps: []api.Bitmap{on("m", []api.Span{}...)}, Counts: []int{}}
	for _, pair := range [][2]api.Meta{{x, y}, {{}, {T: leaves(), Shots: []api.Shot{}, Maps: []api.Bitmap{}, Counts: []int{}}}, {{T: leaves(nil)}, {T: leaves([]api.Entry{})}}} {
		one, first := Put(pair[0])
		other, second := Put(pair[1])
		want(t, "the encodings", other, one)
		want(t, "the errors", second, first)
		want(t, "Right", Right(pair[1]), Right(pair[0]))
	}
}

// R4: with an error, what is returned is its zero value.
func TestZeroValues(t *testing.T) {
	for _, m := range []api.Meta{{Cluster: 7}, {Size: -1}, {Counts: []int{-1}}, memoryMetas()[15]} {
		b, errno := Put(m)
		want(t, "the error", errno, api.ErrArg)
		want(t, "whether there are bytes", b != nil, false)
	}
	b := bytesOf(small())
	for i := range b {
		m, errno := Get(b[:i])
		want(t, "the error", errno, api.ErrForm)
		want(t, "whether there is a meta", !reflect.DeepEqual(m, api.Meta{}), false)
	}
}
