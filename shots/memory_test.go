package shots

import (
	"fmt"
	"slices"
	"testing"

	"matryoshka/api"
)

// withRoom is a list like l with spare capacity, in which there are marks.
func withRoom[T any](l []T, marks ...T) []T {
	return append(slices.Clone(l), marks...)[:len(l)]
}

func roomyTable(x api.Table) api.Table {
	var l [][]api.Entry
	for _, leaf := range x.L {
		l = append(l, withRoom(leaf, raw(77), raw(78), raw(79)))
	}
	return api.Table{L: withRoom(l, []api.Entry{raw(80)}, nil)}
}

func roomyShots(shots []api.Shot) []api.Shot {
	var l []api.Shot
	for _, x := range shots {
		l = append(l, api.Shot{Name: x.Name, Size: x.Size, T: roomyTable(x.T)})
	}
	return withRoom(l, api.Shot{Name: "spare", Size: 81, T: tableOf(raw(82))}, api.Shot{Name: "more"})
}

// roomy is a meta like m, whose lists are its own and all have spare capacity.
func roomy(m api.Meta) api.Meta {
	var l []api.Bitmap
	for _, b := range m.Maps {
		l = append(l, api.Bitmap{Name: b.Name, On: b.On, L: withRoom(b.L, s(83, 84), s(85, 86))})
	}
	m.T, m.Shots = roomyTable(m.T), roomyShots(m.Shots)
	m.Maps = withRoom(l, on("spare", s(87, 88)), off("more"))
	m.Counts = withRoom(m.Counts, 89, 90)
	return m
}

func wholeTable(x api.Table) api.Table {
	var out api.Table
	for _, leaf := range x.L[:cap(x.L)] {
		out.L = append(out.L, slices.Clone(leaf[:cap(leaf)]))
	}
	return out
}

// whole tells all that the memory of a meta holds, its spare capacity too.
func whole(m api.Meta) string {
	var shots []api.Shot
	for _, x := range m.Shots[:cap(m.Shots)] {
		shots = append(shots, api.Shot{Name: x.Name, Size: x.Size, T: wholeTable(x.T)})
	}
	var maps []api.Bitmap
	for _, b := range m.Maps[:cap(m.Maps)] {
		maps = append(maps, api.Bitmap{Name: b.Name, On: b.On, L: slices.Clone(b.L[:cap(b.L)])})
	}
	m.T, m.Shots, m.Maps, m.Counts = wholeTable(m.T), shots, maps, m.Counts[:cap(m.Counts)]
	return fmt.Sprintf("%+v", m)
}

// scribble writes over all that the memory of a list holds, and appends to it.
func scribble[T any](l []T, mark T) {
	for i := range l[:cap(l)] {
		l[:cap(l)][i] = mark
	}
	_ = append(l, mark, mark)
	_ = append(l[:0], mark)
}

func scribbleTable(x api.Table) {
	for _, leaf := range x.L[:cap(x.L)] {
		scribble(leaf, raw(-1))
	}
	scribble(x.L, []api.Entry{raw(-2)})
}

func scribbleShots(shots []api.Shot) {
	for _, x := range shots[:cap(shots)] {
		scribbleTable(x.T)
	}
	scribble(shots, api.Shot{Name: "scribbled", T: tableOf(raw(-3))})
}

func scribbleMaps(maps []api.Bitmap) {
	for _, b := range maps[:cap(maps)] {
		scribble(b.L, s(-1, -2))
	}
	scribble(maps, on("scribbled", s(-3, -4)))
}

// checkApart is that lists share no memory: each keeps its own mark when all are filled with marks.
func checkApart[T any](t *testing.T, lists [][]T, mark func(n int) T) {
	t.Helper()
	for n, l := range lists {
		scribble(l, mark(n))
	}
	for n, l := range lists {
		for _, x := range l[:cap(l)] {
			want(t, fmt.Sprintf("list %d of %d", n, len(lists)), x, mark(n))
		}
	}
}

// checkTablesApart is that no lists of these tables share memory.
func checkTablesApart(t *testing.T, tables ...api.Table) {
	t.Helper()
	var leaves [][]api.Entry
	var lists [][][]api.Entry
	for _, x := range tables {
		leaves = append(leaves, x.L...)
		lists = append(lists, x.L)
	}
	checkApart(t, leaves, raw)
	checkApart(t, lists, func(n int) []api.Entry { return []api.Entry{raw(n)} })
}

// memoryMetas are metas of several kinds, one of whose shots has the table of the meta itself.
func memoryMetas() []api.Meta {
	shared := right()
	shared.Shots = append(shared.Shots, api.Shot{Name: "d", Size: shared.Size, T: shared.T}, shared.Shots[0])
	same := []api.Span{s(0, 2), s(3, 5)}
	shared.Maps = append(shared.Maps, on("o", same...), on("p", same...), off("q", same...), off("r", same...))
	leaf := tableOf(raw(9)).L[0]
	shared.Shots = append(shared.Shots, api.Shot{Name: "e", T: api.Table{L: [][]api.Entry{leaf, leaf, nil, leaf[:3]}}})
	return append(wrongs()[:9], right(), full(7), api.Meta{}, shared)
}

// changed are the metas that the calls return.
func changed(m api.Meta) []api.Meta {
	var all []api.Meta
	for _, name := range []string{"a", "b", "c", "e", "s0", "s3", "x", "", "\xff\x00"} {
		added, _ := Add(m, name)
		back, _ := Back(m, name)
		dropped, _ := Drop(m, name)
		all = append(all, added, back, dropped)
	}
	return all
}

// found are the shots that Find returns.
func found(m api.Meta) []api.Shot {
	var all []api.Shot
	for _, name := range []string{"a", "b", "c", "e", "s0", "s3", "x", "", "\xff\x00"} {
		shot, _ := Find(m, name)
		all = append(all, shot)
	}
	return all
}

func told[T any](all []T) []string {
	var l []string
	for _, x := range all {
		l = append(l, fmt.Sprintf("%+v", x))
	}
	return l
}

// R3: neither what is handed in nor its spare capacity is changed.
func TestMetasAreNotChanged(t *testing.T) {
	for _, given := range memoryMetas() {
		m := roomy(given)
		before := whole(m)
		changed(m)
		found(m)
		want(t, "the meta", whole(m), before)
	}
}

// R3: what is written into a meta later changes no result.
func TestMetasAreNotKept(t *testing.T) {
	for _, given := range memoryMetas() {
		m := roomy(given)
		metas, shots := changed(m), found(m)
		scribbleTable(m.T)
		scribbleShots(m.Shots)
		scribbleMaps(m.Maps)
		scribble(m.Counts, -9)
		want(t, "the metas", told(metas), told(changed(given)))
		want(t, "the shots", told(shots), told(found(given)))
	}
}

// R3: writing into a result changes neither the argument nor another result.
func TestResultsAreNewMemory(t *testing.T) {
	for _, given := range memoryMetas() {
		m := roomy(given)
		before := whole(m)
		wantedMetas, wantedShots := told(changed(m)), told(found(m))
		for i := range wantedMetas {
			metas, shots := changed(m), found(m)
			scribbleTable(metas[i].T)
			scribbleShots(metas[i].Shots)
			scribbleMaps(metas[i].Maps)
			scribble(metas[i].Counts, -9)
			want(t, "the meta", whole(m), before)
			want(t, "the shots", told(shots), wantedShots)
			want(t, "the other metas", slices.Delete(told(metas), i, i+1), slices.Delete(slices.Clone(wantedMetas), i, i+1))
		}
		for i := range wantedShots {
			metas, shots := changed(m), found(m)
			scribbleTable(shots[i].T)
			want(t, "the meta", whole(m), before)
			want(t, "the metas", told(metas), wantedMetas)
			want(t, "the other shots", slices.Delete(told(shots), i, i+1), slices.Delete(slices.Clone(wantedShots), i, i+1))
		}
	}
}

// R3: no two lists of one result share memory, those of the table and of the shot that was taken of it neither.
func TestListsOfOneResultShareNothing(t *testing.T) {
	for _, given := range memoryMetas() {
		for _, m := range changed(roomy(given)) {
			tables, sets := []api.Table{m.T}, [][]api.Span{}
			for _, shot := range m.Shots {
				tables = append(tables, shot.T)
			}
			for _, b := range m.Maps {
				sets = append(sets, b.L)
			}
			checkTablesApart(t, tables...)
			checkApart(t, sets, func(n int) api.Span { return s(n, -n) })
		}
		for _, shot := range found(given) {
			checkTablesApart(t, shot.T)
		}
	}
}

// R3: a nil list and an empty one are equivalent.
func TestNilAndEmptyAreEquivalent(t *testing.T) {
	x := api.Meta{Cluster: 1, Size: 8, Shots: []api.Shot{{Name: "a", Size: 4}, {Name: "b", T: api.Table{L: [][]api.Entry{nil, tableOf(zero).L[0]}}}}, Maps: []api.Bitmap{on("m"), off("n")}}
	y := api.Meta{Cluster: 1, Size: 8, T: api.Table{L: [][]api.Entry{}}, Counts: []int{}, Shots: []api.Shot{{Name: "a", Size: 4, T: api.Table{L: [][]api.Entry{}}}, {Name: "b", T: api.Table{L: [][]api.Entry{{}, tableOf(zero).L[0]}}}}, Maps: []api.Bitmap{on("m", []api.Span{}...), off("n", []api.Span{}...)}}
	for _, name := range []string{"a", "b", "x", ""} {
		want(t, name, calls(y, name), calls(x, name))
	}
	none, empty := api.Meta{}, api.Meta{Shots: []api.Shot{}, Maps: []api.Bitmap{}}
	for _, name := range []string{"a", ""} {
		want(t, name, calls(empty, name), calls(none, name))
	}
}

// R4: with an error or false, every other result is its zero value.
func TestZeroValues(t *testing.T) {
	for _, m := range append(memoryMetas(), full(8)) {
		for _, name := range []string{"", "no such name", "A", "\xff"} {
			added, a := Add(m, name)
			back, b := Back(m, name)
			dropped, d := Drop(m, name)
			shot, ok := Find(m, name)
			for _, x := range []struct {
				errno api.Errno
				m     api.Meta
			}{{a, added}, {b, back}, {d, dropped}} {
				if x.errno != api.OK && (x.m.Cluster != 0 || x.m.Size != 0 || x.m.Back != "" || x.m.T.L != nil || x.m.Shots != nil || x.m.Maps != nil || x.m.Counts != nil) {
					t.Errorf("%+v beside error %d", x.m, x.errno)
				}
			}
			if !ok && (shot.Name != "" || shot.Size != 0 || shot.T.L != nil) {
				t.Errorf("%+v beside false", shot)
			}
		}
	}
}
