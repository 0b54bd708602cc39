package file

import (
	"fmt"
	"math/rand"
	"slices"
	"testing"

	"matryoshka/api"
)

// withRoom is a list like l with spare capacity, in which there are marks.
func withRoom[T any](l []T, marks ...T) []T {
	return append(slices.Clone(l), marks...)[:len(l)]
}

var mark = raw(3, 2)

func leafOf(e api.Entry) []api.Entry {
	return append([]api.Entry{e}, make([]api.Entry, 7)...)
}

func roomyTable(t api.Table) api.Table {
	var out [][]api.Entry
	for _, leaf := range t.L {
		out = append(out, withRoom(leaf, mark, mark))
	}
	return api.Table{L: withRoom(out, leafOf(mark), nil)}
}

// roomy is a meta like m, whose lists are its own and all have spare capacity.
func roomy(m api.Meta) api.Meta {
	m.T = roomyTable(m.T)
	m.Shots = withRoom(m.Shots, api.Shot{Name: "spare"}, api.Shot{Name: "shots", T: tableOf(zero)})
	for i, x := range m.Shots {
		m.Shots[i].T = roomyTable(x.T)
	}
	m.Maps = withRoom(m.Maps, api.Bitmap{Name: "spare", L: []api.Span{{To: 1}}}, api.Bitmap{Name: "bitmaps"})
	for i, x := range m.Maps {
		m.Maps[i].L = withRoom(x.L, api.Span{From: 81, To: 82}, api.Span{From: 83})
	}
	m.Counts = withRoom(m.Counts, 91, 92, 93)
	return m
}

func wholeTable(t api.Table) string {
	var out [][]api.Entry
	for _, leaf := range t.L[:cap(t.L)] {
		out = append(out, leaf[:cap(leaf)])
	}
	return fmt.Sprintf("%+v", out)
}

// whole tells all that the memory of a meta holds, its spare capacity too.
func whole(m api.Meta) string {
	told := fmt.Sprint(m.Cluster, m.Size, m.Back, wholeTable(m.T), m.Counts[:cap(m.Counts)])
	for _, x := range m.Shots[:cap(m.Shots)] {
		told += fmt.Sprint(x.Name, x.Size, wholeTable(x.T))
	}
	for _, x := range m.Maps[:cap(m.Maps)] {
		told += fmt.Sprint(x.Name, x.On, x.L[:cap(x.L)])
	}
	return told
}

// scribble writes over all that the memory of a list holds, and appends to it.
func scribble[T any](l []T, mark T) {
	for i := range l[:cap(l)] {
		l[:cap(l)][i] = mark
	}
	_ = append(l, mark, mark)
	_ = append(l[:0], mark)
}

// tablesOf are all tables of a meta.
func tablesOf(m api.Meta) []api.Table {
	all := []api.Table{m.T}
	for _, x := range m.Shots[:cap(m.Shots)] {
		all = append(all, x.T)
	}
	return all
}

// leavesOf are the leaves of all tables of a meta.
func leavesOf(m api.Meta) [][]api.Entry {
	var all [][]api.Entry
	for _, x := range tablesOf(m) {
		all = append(all, x.L[:cap(x.L)]...)
	}
	return all
}

// setsOf are the sets of all bitmaps of a meta.
func setsOf(m api.Meta) [][]api.Span {
	var all [][]api.Span
	for _, x := range m.Maps[:cap(m.Maps)] {
		all = append(all, x.L)
	}
	return all
}

// scribbleAll writes over all the memory of a meta.
func scribbleAll(m api.Meta) {
	for _, leaf := range leavesOf(m) {
		scribble(leaf, mark)
	}
	for _, set := range setsOf(m) {
		scribble(set, api.Span{From: 7, To: -7})
	}
	for _, x := range tablesOf(m) {
		scribble(x.L, leafOf(mark))
	}
	scribble(m.Shots, api.Shot{Name: "scribbled"})
	scribble(m.Maps, api.Bitmap{Name: "scribbled"})
	scribble(m.Counts, -5)
}

// checkApart is that lists share no memory: each keeps its own mark when all are filled with marks.
func checkApart[T any](t *testing.T, what string, lists [][]T, mark func(k int) T) {
	t.Helper()
	for k, l := range lists {
		scribble(l, mark(k))
	}
	for k, l := range lists {
		for _, x := range l[:cap(l)] {
			want(t, fmt.Sprint(what, " ", k), x, mark(k))
		}
	}
}

// shared is an image all of whose lists are in one memory.
func shared() api.Meta {
	x := tableOf(raw(8, 2), packed(10, 1), raw(8, 2))
	x.L = append(x.L, nil, x.L[0])
	sets := []api.Span{{To: 2}, {From: 3, To: 5}}
	return api.Meta{
		Cluster: 1, Size: 64, T: x, Shots: []api.Shot{{Name: "a", Size: 64, T: x}, {Name: "b", Size: 32, T: api.Table{L: x.L[:1]}}},
		Maps: []api.Bitmap{{Name: "a", L: sets}, {Name: "b", On: true, L: sets[:1]}}, Counts: []int{1, 1, 9},
	}
}

func memoryImages() []api.Meta {
	return append(noMetas(), empty, everything(), shared(), at(3, 9), with(at(2), fromTo(0, 50)...), with(empty, -1))
}

// R3: neither the meta nor the counts that are handed to Save are changed, and not their spare capacity; whether it
// returns an error or not.
func TestArgumentsAreNotChanged(t *testing.T) {
	for _, given := range memoryImages() {
		for _, m := range []api.Meta{given, roomy(given)} {
			for _, kept := range [][]int{nil, withRoom([]int{1, 1, 0, -3, 0, 5}, 7, 7, 7), withRoom(full(), 6, 7), withRoom(make([]int, most), 0, 8), withRoom(make([]int, 20), make([]int, 100)...)} {
				d, s := withState(t, 40)
				before, counts := whole(m), slices.Clone(kept[:cap(kept)])
				for _, last := range []api.Slot{none, s, {Seq: 1 << 31}, {Seq: 7, Start: 2, Count: 999}} {
					Save(d, "f", m, last, kept)
					Save(d, "g", m, last, kept)
					Save(nil, "f", m, last, kept)
					d.Power(2)
					Save(d, "f", m, last, kept)
					d.Crash(nil)
				}
				want(t, "the meta", whole(m), before)
				want(t, "the counts", slices.Equal(kept[:cap(kept)], counts), true)
			}
		}
	}
}

// R3: nothing of what is handed to Save is kept: whatever is written into it changes nothing of the file.
func TestArgumentsAreNotKept(t *testing.T) {
	for _, given := range []api.Meta{empty, everything(), shared(), at(3, 9)} {
		d, last := withState(t, 40)
		m, kept := roomy(given), withRoom([]int{0, 0, 0, 5, 0, 0, 1}, 9, 9)
		s := checkSave(t, "a meta", d, m, last, kept)
		b, n := bytesOf(t, d, "f"), d.Used()
		scribbleAll(m)
		scribble(kept, 77)
		checkBytes(t, "the file", d, b)
		checkLoad(t, "the state", d, with(given, modelCounts(given, n)...), s)
		d.Crash(nil)
		checkBytes(t, "what is durable", d, b)
	}
}

// R3: what is written into a result of Load changes nothing of the file and of another result.
func TestMetasAreNewMemory(t *testing.T) {
	for _, given := range []api.Meta{empty, everything(), shared(), at(3, 9), with(everything(), fromTo(0, 99)...)} {
		contents := pattern(140)
		setState(contents, 1, 4, 40, blobOfMeta(t, given))
		d := diskOf(t, contents)
		first, _, _ := Load(d, "f")
		second, _, _ := Load(d, "f")
		wanted, told := fmt.Sprintf("%+v", second), whole(second)
		scribbleAll(first)
		checkBytes(t, "the file", d, contents)
		want(t, "the second", fmt.Sprintf("%+v", second), wanted)
		want(t, "all of its memory", whole(second), told)
		third, _, _ := Load(d, "f")
		want(t, "the third", fmt.Sprintf("%+v", third), wanted)
		d.Write("f", 0, make([]byte, 140*16))
		d.Remove("f")
		want(t, "the third, without its file", fmt.Sprintf("%+v", third), wanted)
	}
}

// R3: no two lists of a result share memory.
func TestListsOfOneMetaShareNothing(t *testing.T) {
	for _, given := range []api.Meta{everything(), shared()} {
		contents := pattern(140)
		setState(contents, 0, 4, 40, blobOfMeta(t, given))
		m, _, _ := Load(diskOf(t, contents), "f")
		checkApart(t, "leaf", leavesOf(m), func(k int) api.Entry { return api.Entry{Start: k} })
		checkApart(t, "set", setsOf(m), func(k int) api.Span { return api.Span{From: k} })
		var tables [][][]api.Entry
		for _, x := range tablesOf(m) {
			tables = append(tables, x.L)
		}
		checkApart(t, "table", tables, func(k int) []api.Entry { return leafOf(api.Entry{Start: k}) })
	}
}

// R3: a nil list and an empty one are equivalent.
func TestNilAndEmptyAreEquivalent(t *testing.T) {
	x := api.Meta{Size: 16, T: api.Table{L: [][]api.Entry{nil, leafOf(raw(2, 1))}}, Shots: []api.Shot{{Name: "s"}}, Maps: []api.Bitmap{{Name: "m"}}}
	y := x
	y.T = api.Table{L: [][]api.Entry{{}, x.T.L[1]}}
	y.Shots, y.Maps, y.Counts = []api.Shot{{Name: "s", T: api.Table{L: [][]api.Entry{}}}}, []api.Bitmap{{Name: "m", L: []api.Span{}}}, []int{}
	for _, kept := range [][]int{nil, {}} {
		one, two := diskOf(t, make([]byte, 32)), diskOf(t, make([]byte, 32))
		want(t, "the slot", checkSave(t, "empty ones", two, y, none, kept), checkSave(t, "nil ones", one, x, none, nil))
		want(t, "the state", loaded(two), loaded(one))
	}
}

// R1: no call panics, whatever is handed in.
func TestNoCallPanics(t *testing.T) {
	numbers := append(slices.Clone(farNumbers), 0, 1, 2, 3, 16, 65534, 65535, 65536, 1<<31-1, 1<<31)
	for i, a := range numbers {
		for _, b := range numbers {
			d := diskOf(t, pattern(5))
			for _, last := range []api.Slot{{Seq: a, Start: b, Count: b}, {Seq: 3, Start: a, Count: b}, {Seq: b, Start: 3, Count: a}, {Seq: 1, Start: a, Count: b, Sum: uint32(b)}} {
				for _, m := range []api.Meta{empty, {Cluster: a, Size: b}, {Size: 8, T: tableOf(api.Entry{Kind: 2, Start: a, Count: b})}, {Size: 8, Shots: []api.Shot{{Name: "s", Size: b, T: tableOf(api.Entry{Kind: a, Start: b})}}}} {
					Save(d, "f", m, last, []int{0, 0, a, b})
					Save(nil, "f", m, last, []int{a})
				}
			}
			Load(d, "f")
		}
		Save(diskOf(t, nil), "f", with(everything(), a), api.Slot{Seq: numbers[len(numbers)-1-i]}, full()[:i*3])
	}
	Load(nil, "")
}

// R1: whatever bytes a file contains, both calls return.
func TestAnyBytes(t *testing.T) {
	r := rand.New(rand.NewSource(5))
	for range 500 {
		contents := make([]byte, r.Intn(60)*16)
		r.Read(contents)
		for sector := range min(2, len(contents)/16) {
			setSlot(contents, sector, api.Slot{Seq: 1 + r.Intn(1<<31), Start: 2 + r.Intn(60), Count: 1 + r.Intn(300)})
		}
		d := diskOf(t, contents)
		checkNoLoad(t, "any bytes", d, "f", api.ErrForm)
		checkSave(t, "any bytes", d, everything(), none, nil)
	}
}
