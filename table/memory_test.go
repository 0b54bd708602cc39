package table

import (
	"bytes"
	"slices"
	"sync"
	"testing"

	"matryoshka/api"
)

var mark = api.Entry{Kind: 77, Start: 77, Count: 77, Size: 77, Sum: 77}

// roomy is a table like x, whose lists all have spare capacity, in which there are marks.
func roomy(x api.Table) api.Table {
	l := make([][]api.Entry, 0, len(x.L)+3)
	for _, leaf := range x.L {
		room := append(slices.Clone(leaf), mark, mark, mark)
		l = append(l, room[:len(leaf)])
	}
	for range 3 {
		l = append(l, []api.Entry{mark})
	}
	return api.Table{L: l[:len(x.L)]}
}

// within is all that the memory of a table holds, its spare capacity too.
func within(x api.Table) api.Table {
	var out api.Table
	for _, leaf := range x.L[:cap(x.L)] {
		out.L = append(out.L, slices.Clone(leaf[:cap(leaf)]))
	}
	return out
}

// scribble writes over all entries of a leaf, and into its spare capacity.
func scribble(leaf []api.Entry, e api.Entry) {
	leaf = leaf[:cap(leaf)]
	for i := range leaf {
		leaf[i] = e
	}
}

// scribbleOver writes over all leaves of a table, their spare capacity and that of the list of them.
func scribbleOver(x api.Table) {
	for _, leaf := range x.L[:cap(x.L)] {
		scribble(leaf, mark)
	}
	l := x.L[:cap(x.L)]
	for i := range l {
		l[i] = []api.Entry{mark}
	}
}

var tables = []entries{{}, {0: zero}, {9: raw(2, 4)}, {1: zero, 3: raw(9, 4), 8: zero, 31: packed(6, 3, 40)}, {0: zero, 4095: zero}, fullTable(40, 2)}

// R3
func TestArgumentsAreNotChanged(t *testing.T) {
	all := noTables()
	for _, of := range tables {
		all = append(all, tableOf(of))
	}
	for _, given := range all {
		x := roomy(given)
		before := within(x)
		for i := -1; i < 42; i++ {
			Get(x, i)
			Cut(x, i)
			for _, e := range []api.Entry{none, zero, raw(5, 4), mark} {
				Set(x, i, e)
			}
		}
		Set(x, 4095, zero)
		Cut(x, 4096)
		for cluster := -1; cluster <= 7; cluster++ {
			Right(x, 4096, cluster)
			Put(x, cluster)
		}
		if !same(x, given) || !same(within(x), before) {
			t.Errorf("%v was changed to %v", before, within(x))
		}
	}
}

// R3
func TestBytesAreNotChanged(t *testing.T) {
	for _, c := range encodings {
		for _, given := range []string{c.b, c.b[:len(c.b)-1], "other bytes", ""} {
			room := []byte(given + "behind the length")
			b, before := room[:len(given)], slices.Clone(room)
			for at := -1; at < len(room)+2; at++ {
				Read(b, at, 4096, c.cluster)
			}
			if !bytes.Equal(room, before) {
				t.Errorf("%x was changed to %x", before, room)
			}
		}
	}
}

// results are those of the calls that return a table made from x, refused and not.
func results(x api.Table) []api.Table {
	var all []api.Table
	for _, i := range []int{-1, 0, 1, 3, 8, 9, 31, 32, 50, 4095, 4096} {
		all = append(all, Set(x, i, none), Set(x, i, zero), Set(x, i, raw(5, 4)), Set(x, i, raw(5, 3)), Cut(x, i))
	}
	for cluster := range 7 {
		if b, errno := Put(x, cluster); errno == api.OK {
			read, _, _ := Read(b, 0, 4096, cluster)
			all = append(all, read)
		}
	}
	return all
}

// R3: writing into a result changes neither the argument nor another result.
func TestResultsAreNewMemory(t *testing.T) {
	all := noTables()[:24]
	for _, of := range tables {
		all = append(all, tableOf(of))
	}
	for _, given := range all {
		x := roomy(given)
		before, want := within(x), results(given)
		for k := range want {
			got := results(x)
			scribbleOver(got[k])
			if !same(within(x), before) {
				t.Fatalf("%v was changed to %v by a result", before, within(x))
			}
			for other := range got {
				if other != k && !same(got[other], want[other]) {
					t.Fatalf("%v was changed to %v by another result", want[other], got[other])
				}
			}
		}
	}
}

// R3: what is written into an argument later changes no result.
func TestArgumentsAreNotKept(t *testing.T) {
	for _, of := range tables {
		want := results(tableOf(of))
		x := roomy(tableOf(of))
		got := results(x)
		scribbleOver(x)
		for k := range got {
			checkSame(t, "a result", got[k], want[k])
		}
	}
	for _, c := range encodings {
		b := []byte(c.b)
		x, _, _ := Read(b, 0, 4096, c.cluster)
		for i := range b {
			b[i] = 0xff
		}
		checkSame(t, "a result", x, tableOf(c.of))
	}
}

// R3: no two leaves of one result share memory, nor do their spare capacities.
func TestLeavesShareNoMemory(t *testing.T) {
	shared := slices.Repeat([]api.Entry{zero}, 8)
	long := slices.Repeat([]api.Entry{zero}, 24)
	given := []api.Table{leaves(shared, shared, nil, shared), leaves(long[:8], long[8:16], long[16:]), leaves(long[:9], long[1:9], long[:0])}
	for _, of := range tables {
		given = append(given, tableOf(of))
	}
	for _, x := range given {
		for _, got := range results(x) {
			for number, leaf := range got.L {
				scribble(leaf, api.Entry{Kind: number})
			}
			for number, leaf := range got.L {
				for _, e := range leaf[:cap(leaf)] {
					if e != (api.Entry{Kind: number}) {
						t.Fatalf("leaf %d of %d shares memory with leaf %d", number, len(got.L), e.Kind)
					}
				}
			}
		}
	}
}

// R3: a table whose leaves share memory has entries of its own for each of them.
func TestSetInLeavesThatShareMemory(t *testing.T) {
	shared := slices.Repeat([]api.Entry{zero}, 8)
	x := leaves(shared, shared, nil, shared)
	of := entries{}
	for i := range 8 {
		of[i], of[8+i], of[24+i] = zero, zero, zero
	}
	for i := range 40 {
		checkSet(t, x, i, raw(2, 2), tableOf(of.with(i, raw(2, 2))))
		checkSet(t, x, i, none, tableOf(of.with(i, none)))
		checkCut(t, x, i, tableOf(of.ahead(i)))
	}
}

// R3
func TestEncodingsAreNewMemory(t *testing.T) {
	for _, c := range encodings {
		first, _ := Put(tableOf(c.of), c.cluster)
		second, _ := Put(tableOf(c.of), c.cluster)
		first = first[:cap(first)]
		for i := range first {
			first[i] = 0xff
		}
		if _ = append(first, 1); string(second) != c.b {
			t.Errorf("%x, want %x", second, c.b)
		}
		checkPut(t, tableOf(c.of), c.cluster, []byte(c.b))
	}
}

// R3: absent leaves are nil or empty.
func TestNilAndEmptyAreEquivalent(t *testing.T) {
	x := leaves(nil, leafOf(zero), nil, nil, leafOf(none, raw(2, 4)))
	y := leaves([]api.Entry{}, leafOf(zero), make([]api.Entry, 0, 8), leafOf(zero)[:0], leafOf(none, raw(2, 4)))
	for i := -1; i < 50; i++ {
		checkGet(t, y, i, Get(x, i))
		checkRight(t, y, i, 2, Right(x, i, 2))
		checkCut(t, y, i, Cut(x, i))
		for _, e := range []api.Entry{none, zero, raw(7, 4), raw(7, 3)} {
			checkSet(t, y, i, e, Set(x, i, e))
		}
	}
	b, _ := Put(x, 2)
	checkPut(t, y, 2, b)
}

// R1 and R5: the same calls have the same results, whatever runs beside them.
func TestCallsShareNothing(t *testing.T) {
	x := tableOf(entries{3: zero, 9: raw(2, 4), 40: packed(8, 3, 33)})
	b := encodingOf(x)
	want := results(x)
	var all sync.WaitGroup
	for range 8 {
		all.Go(func() {
			for range 10 {
				for k, got := range results(x) {
					if !same(got, want[k]) {
						t.Error("another table")
					}
				}
				read, behind, errno := Read(b, 0, 41, 2)
				put, _ := Put(x, 2)
				if !same(read, x) || behind != len(b) || errno != api.OK || !bytes.Equal(put, b) {
					t.Error("another result")
				}
			}
		})
	}
	all.Wait()
}
