package check

import (
	"fmt"
	"math"
	"reflect"
	"slices"
	"testing"

	"matryoshka/api"
)

// withRoom is a list like l with spare capacity, in which there are marks.
func withRoom[T any](l []T, marks ...T) []T {
	return append(slices.Clone(l), marks...)[:len(l)]
}

var mark = api.Entry{Kind: 2, Start: 3, Count: 2, Sum: 9}

func roomyTable(t api.Table) api.Table {
	var out [][]api.Entry
	for _, leaf := range t.L {
		out = append(out, withRoom(leaf, mark, mark))
	}
	return api.Table{L: withRoom(out, leafOf(mark), nil)}
}

// roomy is a meta like m, whose lists are its own and all have spare capacity.
func roomy(m api.Meta) api.Meta {
	m.T = roomyTable(m.T)
	m.Shots = withRoom(m.Shots, api.Shot{Name: "spare"}, api.Shot{Name: "shots", T: tableOf(zero)})
	for i, x := range m.Shots {
		m.Shots[i].T = roomyTable(x.T)
	}
	m.Maps = withRoom(m.Maps, api.Bitmap{Name: "spare", L: []api.Span{{To: 1}}}, api.Bitmap{Name: "bitmaps"})
	for i, x := range m.Maps {
		m.Maps[i].L = withRoom(x.L, api.Span{From: 81, To: 82}, api.Span{From: 83})
	}
	m.Counts = withRoom(m.Counts, 91, 92, 93)
	return m
}

func wholeTable(t api.Table) string {
	var out [][]api.Entry
	for _, leaf := range t.L[:cap(t.L)] {
		out = append(out, leaf[:cap(leaf)])
	}
	return fmt.Sprintf("%+v", out)
}

// whole tells all that the memory of a meta holds, its spare capacity too.
func whole(m api.Meta) string {
	told := fmt.Sprint(m.Cluster, m.Size, m.Back, wholeTable(m.T), m.Counts[:cap(m.Counts)])
	for _, x := range m.Shots[:cap(m.Shots)] {
		told += fmt.Sprint(x.Name, x.Size, wholeTable(x.T))
	}
	for _, x := range m.Maps[:cap(m.Maps)] {
		told += fmt.Sprint(x.Name, x.On, x.L[:cap(x.L)])
	}
	return told
}

// scribble writes over all that the memory of a list holds, and appends to it.
func scribble[T any](l []T, mark T) {
	for i := range l[:cap(l)] {
		l[:cap(l)][i] = mark
	}
	_ = append(l, mark, mark)
	_ = append(l[:0], mark)
}

// tablesOf are all tables of a meta.
func tablesOf(m api.Meta) []api.Table {
	all := []api.Table{m.T}
	for _, x := range m.Shots[:cap(m.Shots)] {
		all = append(all, x.T)
	}
	return all
}

// leavesOf are the leaves of all tables of a meta.
func leavesOf(m api.Meta) [][]api.Entry {
	var all [][]api.Entry
	for _, x := range tablesOf(m) {
		all = append(all, x.L[:cap(x.L)]...)
	}
	return all
}

// setsOf are the sets of all bitmaps of a meta.
func setsOf(m api.Meta) [][]api.Span {
	var all [][]api.Span
	for _, x := range m.Maps[:cap(m.Maps)] {
		all = append(all, x.L)
	}
	return all
}

// checkApart is that lists share no memory: each keeps its own mark when all are filled with marks.
func checkApart[T any](t *testing.T, what string, lists [][]T, mark func(k int) T) {
	t.Helper()
	for k, l := range lists {
		scribble(l, mark(k))
	}
	for k, l := range lists {
		for _, x := range l[:cap(l)] {
			want(t, fmt.Sprint(what, " ", k), x, mark(k))
		}
	}
}

// scribbleAll writes over all the memory of a meta.
func scribbleAll(m api.Meta) {
	for _, leaf := range leavesOf(m) {
		scribble(leaf, mark)
	}
	for _, set := range setsOf(m) {
		scribble(set, api.Span{From: 7, To: -7})
	}
	for _, x := range tablesOf(m) {
		scribble(x.L, leafOf(mark))
	}
	scribble(m.Shots, api.Shot{Name: "scribbled"})
	scribble(m.Maps, api.Bitmap{Name: "scribbled"})
	scribble(m.Counts, -5)
}

// shared is an image all of whose lists are in one memory.
func shared() (api.Meta, []byte) {
	file := fileOf(12)
	x := tableOf(raw(file, 2, 1), raw(file, 90, 1), raw(file, 3, 1), zero, zero, zero, zero, zero)
	x.L = append(x.L, nil, x.L[0])
	sets := []api.Span{{To: 2}, {From: 3, To: 5}}
	return api.Meta{
		Size: 24, T: x, Shots: []api.Shot{{Name: "a", Size: 24, T: x}, {Name: "b", Size: 8, T: api.Table{L: x.L[:1]}}},
		Maps: []api.Bitmap{{Name: "a", L: sets}, {Name: "b", On: true, L: sets[:1]}}, Counts: []int{1, 1, 9},
	}, file
}

// memoryImages are images of several kinds, with the files of theirs.
func memoryImages() ([]api.Meta, [][]byte) {
	one, first := everything()
	two, second := shared()
	file := fileOf(8)
	good := image(1, 8, []api.Entry{raw(file, 2, 2), raw(file, 2, 2)}, []api.Entry{raw(file, 4, 2)})
	good.Maps = one.Maps
	return append(invalidMetas(), one, two, good, api.Meta{}, good), append(slices.Repeat([][]byte{file}, len(invalidMetas())), first, second, file, nil, nil)
}

// R3: neither a meta nor a file is changed, and not their spare capacity.
func TestArgumentsAreNotChanged(t *testing.T) {
	metas, files := memoryImages()
	for i, given := range metas {
		for _, m := range []api.Meta{given, roomy(given)} {
			file := withRoom(files[i], fileOf(3)...)
			before, bytes := whole(m), slices.Clone(file[:cap(file)])
			Faults(m, file)
			Mend(m, file)
			for _, leaf := range leavesOf(m) {
				for _, e := range leaf[:cap(leaf)] {
					Bytes(e, file, m.Cluster)
				}
			}
			want(t, "the meta", whole(m), before)
			want(t, "the file", file[:cap(file)], bytes)
		}
	}
}

// R3: what Bytes returns is its own, and so is what a later call returns.
func TestContentsAreNewMemory(t *testing.T) {
	data := repeated(8, 32, 2)
	whole := fileOf(12)
	e := packed(whole, 8, data, slices.Repeat([]byte{8}, 32))
	for _, e := range []api.Entry{{}, zero, raw(whole, 3, 2), e} {
		file := withRoom(whole, 1, 2, 3, 4)
		first, errno := Bytes(e, file, 1)
		want(t, "the error", errno, api.OK)
		second, _ := Bytes(e, file, 1)
		wanted := slices.Clone(second)
		scribble(first, 0xaa)
		want(t, "the second", second, wanted)
		want(t, "the file", file[:cap(file)], append(slices.Clone(whole), file[:cap(file)][len(file):]...))
		want(t, "its sectors", file, whole)
		third, _ := Bytes(e, file, 1)
		scribble(file, 0xbb)
		want(t, "the third", third, wanted)
	}
}

// R3: faults are of their own, and so are those of a later call.
func TestFaultsAreNewMemory(t *testing.T) {
	m, file := everything()
	first, second := Faults(m, file), Faults(m, file)
	wanted := slices.Clone(second)
	scribble(first, high(99))
	want(t, "the second", second, wanted)
	third := Faults(m, file)
	scribbleAll(m)
	scribble(file, 1)
	want(t, "the third", third, wanted)
}

// R3: what is mended shares nothing with what was handed in, nor with what a later call returns.
func TestWhatIsMendedIsNewMemory(t *testing.T) {
	metas, files := memoryImages()
	for i, given := range metas {
		m, file := roomy(given), withRoom(files[i], 1, 2, 3)
		before := whole(m)
		first, _ := Mend(m, file)
		second, _ := Mend(m, file)
		wanted := fmt.Sprintf("%+v", second)
		scribbleAll(first)
		want(t, "the meta", whole(m), before)
		want(t, "the second", fmt.Sprintf("%+v", second), wanted)
		third, _ := Mend(m, file)
		told := whole(third)
		scribbleAll(m)
		scribble(file, 7)
		want(t, "the third", fmt.Sprintf("%+v", third), wanted)
		want(t, "all of its memory", whole(third), told)
	}
}

// R3: no two lists of what is mended share memory, even if those of the argument did.
func TestListsOfWhatIsMendedShareNothing(t *testing.T) {
	metas, files := memoryImages()
	for i, m := range metas {
		got, _ := Mend(m, files[i])
		checkApart(t, "leaf", leavesOf(got), func(k int) api.Entry { return api.Entry{Start: k} })
		checkApart(t, "set", setsOf(got), func(k int) api.Span { return api.Span{From: k} })
		var tables [][][]api.Entry
		for _, x := range tablesOf(got) {
			tables = append(tables, x.L)
		}
		checkApart(t, "table", tables, func(k int) []api.Entry { return leafOf(api.Entry{Start: k}) })
	}
}

// R3: a nil list and an empty one are equivalent.
func TestNilAndEmptyAreEquivalent(t *testing.T) {
	file := fileOf(3)
	x := api.Meta{Size: 16, T: api.Table{L: [][]api.Entry{nil, leafOf(raw(file, 2, 1), mark)}}, Shots: []api.Shot{{Name: "s"}}, Maps: []api.Bitmap{{Name: "m"}}}
	x.T.L[1][1].Count = 1
	y := x
	y.T = api.Table{L: [][]api.Entry{{}, x.T.L[1]}}
	y.Shots, y.Maps, y.Counts = []api.Shot{{Name: "s", T: api.Table{L: [][]api.Entry{}}}}, []api.Bitmap{{Name: "m", L: []api.Span{}}}, []int{}
	for _, file := range [][]byte{nil, {}, file} {
		want(t, "the faults", Faults(y, file), Faults(x, file))
		one, first := Mend(x, file)
		two, second := Mend(y, file)
		want(t, "the errors", []api.Errno{first, second}, []api.Errno{api.OK, api.OK})
		want(t, "what is mended", two, one)
	}
}

// R4: with an error, what is returned is its zero value.
func TestZeroValues(t *testing.T) {
	file := fileOf(4)
	wrong := raw(file, 2, 1)
	wrong.Sum++
	for _, e := range []api.Entry{{Kind: 9}, raw(file, 4, 1), wrong, {Kind: 3, Start: 2, Count: 1, Size: 16}} {
		b, errno := Bytes(e, file, 0)
		want(t, "whether there is an error", errno != api.OK, true)
		want(t, "whether there are bytes", b != nil, false)
	}
	for _, m := range invalidMetas() {
		x, errno := Mend(m, file)
		want(t, "the error", errno, api.ErrArg)
		want(t, "whether there is a meta", !reflect.DeepEqual(x, api.Meta{}), false)
	}
	if l := Faults(api.Meta{}, nil); len(l) != 0 {
		t.Error("faults of the zero Meta:", l)
	}
}

// R1: whatever the numbers are, no call panics.
func TestNoCallPanics(t *testing.T) {
	numbers := append(slices.Clone(farNumbers), 0, 1, 2, 3, 16, 64, 65534, 65535, 65536)
	files := [][]byte{nil, fileOf(3), fileOf(65537)}
	for _, a := range numbers {
		for _, b := range numbers {
			for _, c := range numbers {
				for kind := -1; kind < 5; kind++ {
					e := api.Entry{Kind: kind, Start: a, Count: b, Size: c}
					for cluster := -1; cluster < 8; cluster += 4 {
						Bytes(e, files[0], cluster)
						Bytes(e, files[2], cluster)
					}
				}
				m := api.Meta{Cluster: a, Size: b, T: tableOf(api.Entry{Kind: 2, Start: c, Count: 1}), Counts: []int{c}}
				Faults(m, files[1])
				Mend(m, files[1])
			}
			for _, file := range files {
				for _, m := range []api.Meta{
					{Size: 8, T: tableOf(api.Entry{Kind: 2, Start: a, Count: b})}, {Size: 8, Shots: []api.Shot{{Name: "s", Size: 8, T: tableOf(api.Entry{Kind: 3, Start: a, Count: b, Size: b})}}},
					{Cluster: a, Counts: []int{b}}, {Size: 64, Cluster: 6, T: tableOf(api.Entry{Kind: 3, Start: a, Count: b, Size: 16 * b})}, {Shots: []api.Shot{{Name: "s", Size: a}}}, {Maps: []api.Bitmap{{Name: "m", L: []api.Span{{From: a, To: b}}}}},
				} {
					Faults(m, file)
					Mend(m, file)
				}
			}
		}
		Bytes(api.Entry{Kind: a}, files[1], a)
		Bytes(api.Entry{Kind: 2, Start: math.MaxInt, Count: a}, files[1], a)
	}
}
