package copies

import (
	"fmt"
	"slices"
	"testing"

	"matryoshka/api"
)

// withRoom is a list like l with spare capacity, in which there are marks.
func withRoom[T any](l []T, marks ...T) []T {
	return append(slices.Clone(l), marks...)[:len(l)]
}

// metaOf is a meta with lists of every kind, the entries and numbers of which are made from n.
func metaOf(n int) api.Meta {
	e := api.Entry{Kind: n, Start: n, Count: n, Size: n, Sum: uint32(n)}
	x := func() api.Table {
		return api.Table{L: withRoom([][]api.Entry{withRoom([]api.Entry{e, e}, e), nil, withRoom([]api.Entry{e}, e, e)}, []api.Entry{e})}
	}
	b := api.Bitmap{Name: "b", On: n == 1, L: withRoom([]api.Span{{From: n, To: n}, {From: n}}, api.Span{To: n})}
	c := api.Bitmap{Name: "c", On: n != 1, L: withRoom([]api.Span{{From: n, To: n}}, api.Span{To: n})}
	return api.Meta{
		Cluster: n, Size: n, Back: fmt.Sprint(n), T: x(),
		Shots:  withRoom([]api.Shot{{Name: "s", Size: n, T: x()}, {Name: "t", T: x()}}, api.Shot{Name: "u", T: x()}),
		Maps:   withRoom([]api.Bitmap{b, c}, b),
		Counts: withRoom([]int{n, n}, n),
	}
}

// overwrite makes all that stands in the lists of m what stands in metaOf(n), in the memory that they have.
func overwrite(m api.Meta, n int) {
	other := metaOf(n)
	tables, others := []api.Table{m.T}, []api.Table{other.T}
	for i := range m.Shots {
		tables, others = append(tables, m.Shots[i].T), append(others, other.Shots[i].T)
	}
	for i, x := range tables {
		for k, leaf := range x.L {
			copy(leaf, others[i].L[k])
		}
		copy(x.L[:cap(x.L)], others[i].L[:cap(others[i].L)])
	}
	for i, b := range m.Maps {
		copy(b.L, other.Maps[i].L)
	}
	copy(m.Shots, other.Shots)
	copy(m.Maps, other.Maps)
	copy(m.Counts, other.Counts)
}

func told(x any) string {
	return fmt.Sprintf("%+v", x)
}

func want(t *testing.T, what string, got, wanted any) {
	t.Helper()
	if told(got) != told(wanted) {
		t.Errorf("%s: %s, want %s", what, told(got), told(wanted))
	}
}

// R3: a copy is equal, and writing into what was copied or into another copy changes nothing of it.
func TestCopiesAreEqualAndApart(t *testing.T) {
	m := metaOf(1)
	first, second := Meta(m), Meta(m)
	table, shot, maps := Table(m.T), Shot(m.Shots[0]), Bitmaps(m.Maps)
	want(t, "the first", first, metaOf(1))
	overwrite(first, 2)
	want(t, "the original", m, metaOf(1))
	want(t, "the second", second, metaOf(1))
	overwrite(m, 3)
	want(t, "the second", second, metaOf(1))
	want(t, "the table", table, metaOf(1).T)
	want(t, "the shot", shot, metaOf(1).Shots[0])
	want(t, "the bitmaps", maps, metaOf(1).Maps)
}

// R3: writing into a copy of one part changes nothing of the original.
func TestPartsAreApart(t *testing.T) {
	m := metaOf(1)
	table, shot, maps := Table(m.T), Shot(m.Shots[1]), Bitmaps(m.Maps)
	overwrite(api.Meta{T: table, Maps: maps}, 2)
	overwrite(api.Meta{T: shot.T}, 3)
	maps[0].Name = "other"
	want(t, "the original", m, metaOf(1))
}

// What was copied is not held on to by what stands behind the end of its lists.
func TestSpareCapacityIsNotShared(t *testing.T) {
	m := metaOf(1)
	x := Meta(m)
	_ = append(x.Counts, 9)
	_ = append(x.Maps, api.Bitmap{Name: "new"})
	_ = append(x.Shots, api.Shot{Name: "new"})
	_ = append(x.T.L, nil, nil)
	_ = append(x.T.L[0], api.Entry{}, api.Entry{})
	_ = append(x.Maps[0].L, api.Span{}, api.Span{})
	want(t, "the counts", m.Counts[:3], metaOf(1).Counts[:3])
	want(t, "the bitmaps", m.Maps[:3], metaOf(1).Maps[:3])
	want(t, "the shots", m.Shots[:3], metaOf(1).Shots[:3])
	want(t, "the leaves", m.T.L[:4], metaOf(1).T.L[:4])
	want(t, "a leaf", m.T.L[0][:3], metaOf(1).T.L[0][:3])
	want(t, "a set", m.Maps[0].L[:3], metaOf(1).Maps[0].L[:3])
}

// Lists that are nil stay nil, so that a copy of the zero value is the zero value.
func TestZeroValues(t *testing.T) {
	m := Meta(api.Meta{})
	if m.T.L != nil || m.Shots != nil || m.Maps != nil || m.Counts != nil || Bitmaps(nil) != nil || Table(api.Table{}).L != nil || Shot(api.Shot{}).T.L != nil {
		t.Errorf("%+v, want the zero value", m)
	}
}
