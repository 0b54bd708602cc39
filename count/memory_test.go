package count

import (
	"reflect"
	"slices"
	"testing"

	"matryoshka/api"
)

var mark = api.Entry{Kind: 2, Start: 77, Count: 77, Size: 77, Sum: 77}

// roomyTable is a table like x, whose lists all have spare capacity, in which there are marks.
func roomyTable(x api.Table) api.Table {
	l := make([][]api.Entry, 0, len(x.L)+3)
	for _, leaf := range x.L {
		room := append(slices.Clone(leaf), slices.Repeat([]api.Entry{mark}, 9)...)
		l = append(l, room[:len(leaf)])
	}
	for range 3 {
		l = append(l, leafOf(mark))
	}
	return api.Table{L: l[:len(x.L)]}
}

// roomy is a meta like m, whose lists all have spare capacity.
func roomy(m api.Meta) api.Meta {
	shots := make([]api.Shot, 0, len(m.Shots)+2)
	for _, s := range m.Shots {
		shots = append(shots, api.Shot{Name: s.Name, Size: s.Size, T: roomyTable(s.T)})
	}
	for range 2 {
		shots = append(shots, api.Shot{Name: "spare", T: tableOf(mark)})
	}
	m.T, m.Shots = roomyTable(m.T), shots[:len(m.Shots)]
	m.Counts = append(slices.Clone(m.Counts), 5, 5, 5)[:len(m.Counts)]
	return m
}

func withinTable(x api.Table) api.Table {
	var out api.Table
	for _, leaf := range x.L[:cap(x.L)] {
		out.L = append(out.L, slices.Clone(leaf[:cap(leaf)]))
	}
	return out
}

// within is all that the memory of a meta holds, its spare capacity too.
func within(m api.Meta) api.Meta {
	var shots []api.Shot
	for _, s := range m.Shots[:cap(m.Shots)] {
		shots = append(shots, api.Shot{Name: s.Name, Size: s.Size, T: withinTable(s.T)})
	}
	m.T, m.Shots, m.Counts = withinTable(m.T), shots, slices.Clone(m.Counts[:cap(m.Counts)])
	return m
}

func scribbleTable(x api.Table) {
	for _, leaf := range x.L[:cap(x.L)] {
		for i := range leaf[:cap(leaf)] {
			leaf[:cap(leaf)][i] = mark
		}
	}
	clear(x.L[:cap(x.L)])
}

// scribble writes over all lists of a meta.
func scribble(m api.Meta) {
	scribbleTable(m.T)
	for _, s := range m.Shots[:cap(m.Shots)] {
		scribbleTable(s.T)
	}
	clear(m.Shots[:cap(m.Shots)])
	for i := range m.Counts[:cap(m.Counts)] {
		m.Counts[:cap(m.Counts)][i] = -9
	}
}

// R3: neither what is handed in nor its spare capacity is changed, and what is in that has no line.
func TestMetasAreNotChanged(t *testing.T) {
	for _, given := range someMetas() {
		m := roomy(given)
		before := within(m)
		checkEach(t, m, linesOf(given))
		for size := -1; size < 100; size++ {
			Of(m, size)
		}
		checkOf(t, m, 30, countsOf(given, 30))
		if !reflect.DeepEqual(within(m), before) {
			t.Errorf("%v was changed to %v", before, within(m))
		}
	}
}

// R3
func TestListsAreNotChanged(t *testing.T) {
	room := []int{1, 0, 0, 2, 0, 5, 0, 5}
	before := slices.Clone(room)
	for length := range 9 {
		for n := -1; n < 9; n++ {
			for from := -1; from < 10; from++ {
				Free(room[:length], n, from, 99)
				Free(room[:length], n, from, n+from)
			}
		}
	}
	if !slices.Equal(room, before) {
		t.Errorf("%v was changed to %v", before, room)
	}
}

// R3: writing into a result, or appending to it, changes neither the meta nor another result.
func TestResultsAreNewMemory(t *testing.T) {
	for _, given := range someMetas() {
		m := roomy(given)
		before := within(m)
		lines, again := Each(m), Each(m)
		counts, same := Of(m, 30), Of(m, 30)
		_ = append(lines, line(9, 9, mark))
		for i := range lines[:cap(lines)] {
			lines[:cap(lines)][i] = line(8, 8, mark)
		}
		_ = append(counts, 99)
		for i := range counts[:cap(counts)] {
			counts[:cap(counts)][i] = 98
		}
		if !reflect.DeepEqual(within(m), before) {
			t.Errorf("%v was changed to %v by a result", before, within(m))
		}
		if !slices.Equal(again, linesOf(given)) || !slices.Equal(same, countsOf(given, 30)) {
			t.Errorf("%v and %v were changed by another result", again, same)
		}
		checkEach(t, m, linesOf(given))
		checkOf(t, m, 30, countsOf(given, 30))
	}
}

// R3: what is written into a meta later changes no result.
func TestMetasAreNotKept(t *testing.T) {
	for _, given := range someMetas() {
		m := roomy(given)
		lines, counts := Each(m), Of(m, 30)
		scribble(m)
		if !slices.Equal(lines, linesOf(given)) || !slices.Equal(counts, countsOf(given, 30)) {
			t.Errorf("%v and %v were changed by the meta", lines, counts)
		}
	}
}

// R3: a nil list and an empty one are equivalent.
func TestNilAndEmptyAreEquivalent(t *testing.T) {
	a := leafOf(none, raw(3, 2))
	x := metaOf(leaves(nil, a, nil), api.Table{})
	y := metaOf(leaves([]api.Entry{}, a, leafOf(mark)[:0]), leaves())
	checkEach(t, y, Each(x))
	checkOf(t, y, 9, Of(x, 9))
	y.Shots, y.Counts, y.Maps = []api.Shot{}, []int{}, []api.Bitmap{}
	checkEach(t, y, Each(x))
	checkOf(t, y, 9, Of(x, 9))
	for from := -1; from < 4; from++ {
		checkSame(t, nil, 2, from, 5)
		checkSame(t, []int{}, 2, from, 5)
	}
}
