package image_test

import (
	"bytes"
	"fmt"
	"slices"
	"testing"

	"matryoshka/api"
	"matryoshka/disk"
	"matryoshka/image"
)

// withRoom is a list like l with spare capacity, in which there are marks.
func withRoom[T any](l []T, marks ...T) []T {
	return append(slices.Clone(l), marks...)[:len(l)]
}

var mark = api.Entry{Kind: api.EntryRaw, Start: 3, Count: 2, Sum: 9}

func roomyTable(t api.Table) api.Table {
	var out [][]api.Entry
	for _, leaf := range t.L {
		out = append(out, withRoom(leaf, mark, mark))
	}
	return api.Table{L: withRoom(out, []api.Entry{mark}, nil)}
}

// roomy is a meta like m, whose lists are its own and all have spare capacity.
func roomy(m api.Meta) api.Meta {
	m.T = roomyTable(m.T)
	m.Shots = withRoom(m.Shots, api.Shot{Name: "spare"}, api.Shot{Name: "shots", T: tableOf(mark)})
	for n, s := range m.Shots {
		m.Shots[n].T = roomyTable(s.T)
	}
	m.Maps = withRoom(m.Maps, api.Bitmap{Name: "spare", L: []api.Span{{To: 1}}}, api.Bitmap{Name: "bitmaps"})
	for n, b := range m.Maps {
		m.Maps[n].L = withRoom(b.L, api.Span{From: 81, To: 82}, api.Span{From: 83})
	}
	m.Counts = withRoom(m.Counts, 91, 92, 93)
	return m
}

func wholeTable(t api.Table) string {
	var out [][]api.Entry
	for _, leaf := range t.L[:cap(t.L)] {
		out = append(out, leaf[:cap(leaf)])
	}
	return fmt.Sprintf("%+v", out)
}

// whole tells all that the memory of a meta holds, its spare capacity too.
func whole(m api.Meta) string {
	told := fmt.Sprint(m.Cluster, m.Size, m.Back, wholeTable(m.T), m.Counts[:cap(m.Counts)])
	for _, s := range m.Shots[:cap(m.Shots)] {
		told += fmt.Sprint(s.Name, s.Size, wholeTable(s.T))
	}
	for _, b := range m.Maps[:cap(m.Maps)] {
		told += fmt.Sprint(b.Name, b.On, b.L[:cap(b.L)])
	}
	return told
}

// scribble writes over all that the memory of a list holds, and appends to it.
func scribble[T any](l []T, mark T) {
	for n := range l[:cap(l)] {
		l[:cap(l)][n] = mark
	}
	_ = append(l, mark, mark)
	_ = append(l[:0], mark)
}

// tablesOf are all tables of a meta.
func tablesOf(m api.Meta) []api.Table {
	all := []api.Table{m.T}
	for _, s := range m.Shots[:cap(m.Shots)] {
		all = append(all, s.T)
	}
	return all
}

// leavesOf are the leaves of all tables of a meta.
func leavesOf(m api.Meta) [][]api.Entry {
	var all [][]api.Entry
	for _, x := range tablesOf(m) {
		all = append(all, x.L[:cap(x.L)]...)
	}
	return all
}

// setsOf are the sets of all bitmaps of a meta.
func setsOf(m api.Meta) [][]api.Span {
	var all [][]api.Span
	for _, b := range m.Maps[:cap(m.Maps)] {
		all = append(all, b.L)
	}
	return all
}

// scribbleAll writes over all the memory of a meta.
func scribbleAll(m api.Meta) {
	for _, leaf := range leavesOf(m) {
		scribble(leaf, mark)
	}
	for _, set := range setsOf(m) {
		scribble(set, api.Span{From: 7, To: -7})
	}
	for _, x := range tablesOf(m) {
		scribble(x.L, []api.Entry{mark})
	}
	scribble(m.Shots, api.Shot{Name: "scribbled"})
	scribble(m.Maps, api.Bitmap{Name: "scribbled"})
	scribble(m.Counts, -5)
}

// checkApart is that lists share no memory: each keeps its own mark when all are filled with marks.
func checkApart[T any](t *testing.T, what string, lists [][]T, mark func(n int) T) {
	t.Helper()
	for n, l := range lists {
		scribble(l, mark(n))
	}
	for n, l := range lists {
		for _, x := range l[:cap(l)] {
			want(t, fmt.Sprint(what, " ", n), x, mark(n))
		}
	}
}

// rich is an image that has every part: clusters of all kinds, equal ones, shots that are alike, and bitmaps.
func rich(t *testing.T) (*disk.Disk, *image.Image) {
	t.Helper()
	d, i := backed(t, 1, 60)
	addMap(t, i, "m", true)
	addMap(t, i, "n", true)
	must(t, "Put", i.Put(0, big(1, 1)), i.Put(1, small(1, 2)), i.Put(20, big(1, 1)), i.Zero(3), i.Flush())
	takeShot(t, i, "s")
	takeShot(t, i, "t")
	must(t, "Put", i.Put(2, big(1, 3)), i.Put(9, small(1, 2)), i.Put(28, small(1, 4)), i.Clear(1))
	return d, i
}

// R3: writing into a result of Meta changes nothing of the image, and of no other result.
func TestMetasAreNewMemory(t *testing.T) {
	d, i := rich(t)
	before, first, second := state(i), i.Meta(), i.Meta()
	told := whole(second)
	scribbleAll(first)
	want(t, "the image", state(i), before)
	want(t, "the other result", whole(second), told)
	must(t, "Put, Zero, Resize, Turn, Flush", i.Put(5, big(1, 9)), i.Put(0, small(1, 8)), i.Zero(20), i.Resize(40), i.Turn(api.Meta{}), i.Flush())
	want(t, "the other result, behind calls", whole(second), told)
	j := opened(t, d)
	scribbleAll(j.Meta())
	want(t, "an image that was opened", lasting(j), lasting(i))
}

// R3: no two lists of a result share memory, though equal tables are kept once.
func TestListsOfOneMetaShareNothing(t *testing.T) {
	_, i := rich(t)
	m := i.Meta()
	checkApart(t, "leaf", leavesOf(m), func(n int) api.Entry { return api.Entry{Start: n} })
	checkApart(t, "set", setsOf(m), func(n int) api.Span { return api.Span{From: n} })
	var tables [][][]api.Entry
	for _, x := range tablesOf(m) {
		tables = append(tables, x.L)
	}
	checkApart(t, "table", tables, func(n int) []api.Entry { return []api.Entry{{Start: n}} })
}

// R3: the meta that is handed to Turn is not changed, and not its spare capacity; nothing of it is kept.
func TestTurnKeepsNothing(t *testing.T) {
	_, i := rich(t)
	shared := i.Meta()
	// All of its lists are in one memory.
	shared.Shots = []api.Shot{{Name: "a", Size: 60, T: shared.T}, {Name: "b", Size: 60, T: shared.T}}
	shared.Maps = []api.Bitmap{{Name: "a", On: true, L: shared.Maps[0].L}, {Name: "b", On: true, L: shared.Maps[0].L}}
	for _, given := range []api.Meta{i.Meta(), shared, {}, {Size: -1}, {Size: 8, Counts: []int{3, 4}}} {
		_, i := rich(t)
		m := roomy(given)
		before := whole(m)
		errno := i.Turn(m)
		want(t, "the meta", whole(m), before)
		after := state(i)
		scribbleAll(m)
		want(t, "the image", state(i), after)
		if errno != api.OK {
			continue
		}
		must(t, "Turn of lists that have one memory", i.Turn(given))
		before = fmt.Sprintf("%+v", given)
		if given.Size == 60 {
			must(t, "Put", i.Put(5, big(1, 9)), i.Zero(0), i.Clear(28), i.Resize(50), i.Resize(70), i.Flush())
			must(t, "Put", i.Put(6, big(1, 9)), i.Zero(1))
		}
		want(t, "the meta, behind calls", fmt.Sprintf("%+v", given), before)
	}
}

// R3: a Put into one of several tables that were handed in as one memory changes no other one.
func TestTablesAreApart(t *testing.T) {
	_, i := rich(t)
	m := i.Meta()
	m.Shots = []api.Shot{{Name: "a", Size: 60, T: m.T}, {Name: "b", Size: 60, T: m.T}}
	must(t, "Turn", i.Turn(m))
	a, b := shown(i, "a"), shown(i, "b")
	must(t, "Put", i.Put(0, small(1, 7)), i.Zero(9), i.Clear(28), i.Resize(2), i.Resize(60))
	want(t, "the shots", shown(i, "a")+shown(i, "b"), a+b)
}

// R3: the bytes that are handed to Put are neither changed nor kept, and not their spare capacity.
func TestPutKeepsNothing(t *testing.T) {
	for cluster := range 7 {
		_, i := created(t, cluster, 4<<cluster)
		for k, given := range [][]byte{big(cluster, 1), small(cluster, 2), make([]byte, 16<<cluster), big(cluster, 1)} {
			b := withRoom(given, bytes.Repeat([]byte{7}, 100)...)
			must(t, "Put", i.Put(k, b))
			want(t, "the bytes", fmt.Sprint(b[:cap(b)][:len(b)+100]), fmt.Sprint(append(slices.Clone(given), bytes.Repeat([]byte{7}, 100)...)))
			scribble(b, 0xee)
			want(t, "the cluster", fmt.Sprint(contentsOf(i, "", k)), fmt.Sprint(given))
			b = withRoom(given, bytes.Repeat([]byte{7}, 100)...)
			want(t, "a Put that is refused", []api.Errno{i.Put(4, b), i.Put(0, b[1:])}, []api.Errno{api.ErrRange, api.ErrArg})
			want(t, "the bytes", fmt.Sprint(b[:cap(b)][:len(b)+100]), fmt.Sprint(append(slices.Clone(given), bytes.Repeat([]byte{7}, 100)...)))
		}
		want(t, "what is known", i.Shared(), 1)
	}
}

// R3: writing into a result of Own changes nothing of the image and of no other result, however often it is read.
func TestContentsAreNewMemory(t *testing.T) {
	_, i := rich(t)
	before := state(i)
	for _, shot := range []string{"", "s"} {
		for k := range 30 {
			first, second := contentsOf(i, shot, k), contentsOf(i, shot, k)
			told := fmt.Sprint(second[:cap(second)])
			scribble(first, 0xee)
			want(t, "the other result", fmt.Sprint(second[:cap(second)]), told)
			third := contentsOf(i, shot, k)
			scribble(second, 0xdd)
			must(t, "Put", i.Put(k, big(1, 70)), i.Clear(k))
			want(t, "one more", fmt.Sprint(third[:cap(third)]), told)
			_, i = rich(t)
			want(t, "an image like it", state(i), before)
		}
	}
	for k := range 30 {
		scribble(contentsOf(i, "", k), 0xee)
		scribble(contentsOf(i, "", k), 0xdd)
	}
	want(t, "the image", state(i), before)
}

// R3: a nil list and an empty one are equivalent.
func TestNilAndEmptyAreEquivalent(t *testing.T) {
	x := api.Meta{Size: 16, Shots: []api.Shot{{Name: "s"}}, Maps: []api.Bitmap{{Name: "m", On: true}}}
	y := api.Meta{Size: 16, T: api.Table{L: [][]api.Entry{}}, Shots: []api.Shot{{Name: "s", T: api.Table{L: [][]api.Entry{}}}}, Maps: []api.Bitmap{{Name: "m", On: true, L: []api.Span{}}}, Counts: []int{}}
	zero := []api.Entry{{Kind: 1}, {}, {}, {}, {}, {}, {}, {}}
	v, w := x, y
	v.T, w.T = api.Table{L: [][]api.Entry{nil, zero}}, api.Table{L: [][]api.Entry{{}, zero}}
	for _, pair := range [][2]api.Meta{{x, y}, {v, w}} {
		var told []string
		for _, m := range pair {
			d, i := created(t, 0, 8)
			must(t, "Turn", i.Turn(m), i.Put(3, c("a")), i.Zero(9), i.Clear(8), i.Resize(12), i.Flush())
			told = append(told, state(i)+fmt.Sprint(bytesOf(t, d)))
			want(t, "Put", []api.Errno{i.Put(0, nil), i.Put(0, []byte{})}, []api.Errno{api.ErrArg, api.ErrArg})
		}
		want(t, "the images", told[1], told[0])
	}
}
