package table

import (
	"math/rand"
	"slices"
	"testing"

	"matryoshka/api"
)

func checkGet(t *testing.T, x api.Table, i int, want api.Entry) {
	t.Helper()
	if got := Get(x, i); got != want {
		t.Errorf("Get(%v, %d) = %+v, want %+v", x, i, got, want)
	}
}

func checkSet(t *testing.T, x api.Table, i int, e api.Entry, want api.Table) {
	t.Helper()
	before := copied(x)
	got := Set(x, i, e)
	if !same(got, want) {
		t.Errorf("Set(%v, %d, %+v) = %v, want %v", before, i, e, got, want)
	}
	checkSame(t, "the argument of Set", x, before)
}

func checkCut(t *testing.T, x api.Table, n int, want api.Table) {
	t.Helper()
	before := copied(x)
	got := Cut(x, n)
	if !same(got, want) {
		t.Errorf("Cut(%v, %d) = %v, want %v", before, n, got, want)
	}
	checkSame(t, "the argument of Cut", x, before)
}

// 8.2
func TestGetOfEachEntry(t *testing.T) {
	for _, of := range []entries{{}, {0: zero}, {9: raw(2, 2)}, {3: zero, 8: raw(2, 2), 40: packed(5, 1, 7), 4095: raw(9, 2)}, fullTable(100, 1), fullTable(4096, 1)} {
		x := tableOf(of)
		for i := -20; i < 4200; i++ {
			checkGet(t, x, i, of[i])
		}
		for _, i := range slices.Concat(farBelow, farBeyond) {
			checkGet(t, x, i, none)
		}
	}
}

// 8.2: there is none below 0, in an absent leaf and beyond the last one.
func TestGetOfNoEntry(t *testing.T) {
	full := slices.Repeat([]api.Entry{zero}, 8)
	for _, absent := range [][]api.Entry{nil, {}, full[:0]} {
		for i := -16; i < 50; i++ {
			checkGet(t, leaves(absent), i, none)
			checkGet(t, leaves(absent, absent), i, none)
			want := none
			if 8 <= i && i < 16 {
				want = zero
			}
			checkGet(t, leaves(absent, full), i, want)
			checkGet(t, leaves(absent, full, absent), i, want)
		}
		for _, i := range slices.Concat(farBelow, farBeyond) {
			checkGet(t, leaves(absent, full, absent), i, none)
			checkGet(t, leaves(full), i, none)
		}
	}
}

// 8.2: entry i of any table is entry i modulo Fan of leaf i / Fan, if that does not end before it.
func TestGetInLeavesOfAnotherLength(t *testing.T) {
	for length := range 20 {
		room := make([]api.Entry, 32)
		for place := range room {
			room[place] = raw(2+place, 1)
		}
		// What stands in the spare capacity is none of the entries.
		x := leaves(nil, room[:length], leafOf(zero), room[:length])
		for i := -8; i < 48; i++ {
			want := none
			switch {
			case i == 16:
				want = zero
			case (i/8 == 1 || i/8 == 3) && i%8 < length:
				want = room[i%8]
			}
			checkGet(t, x, i, want)
		}
	}
}

// 8.2: what is not valid is told as it stands.
func TestGetOfTablesThatAreNotValid(t *testing.T) {
	odd := api.Entry{Kind: -7, Start: -1, Count: 1 << 40, Size: -3, Sum: 9}
	x := leaves(leafOf(odd, raw(2, 3), zero), leafOf(), []api.Entry{odd})
	for i, want := range map[int]api.Entry{0: odd, 1: raw(2, 3), 2: zero, 3: none, 8: none, 15: none, 16: odd, 17: none, 24: none} {
		checkGet(t, x, i, want)
	}
	long := api.Table{L: append(make([][]api.Entry, 600), leafOf(none, odd))}
	checkGet(t, long, 4801, odd)
	checkGet(t, long, 4800, none)
}

// 8.2: the example.
func TestSetOfTheExample(t *testing.T) {
	got := Set(api.Table{}, 9, raw(2, 4))
	if len(got.L) != 2 || len(got.L[0]) != 0 || len(got.L[1]) != 8 || got.L[1][1] != raw(2, 4) {
		t.Errorf("%v", got)
	}
	checkSet(t, api.Table{}, 9, zero, leaves(nil, leafOf(none, zero)))
	checkSet(t, leaves(), 0, zero, leaves(leafOf(zero)))
}

// 8.2, 8.1
func TestSetIsAValidTable(t *testing.T) {
	for cluster := range 7 {
		of := entries{}
		x := api.Table{}
		for k, i := range []int{4095, 0, 7, 8, 9, 4088, 4087, 2000, 9, 8, 100, 4095, 0} {
			e := someEntry(cluster, k*1000+i)
			of = of.with(i, e)
			checkSet(t, x, i, e, tableOf(of))
			x = Set(x, i, e)
			checkRight(t, x, 4096, cluster, true)
		}
	}
}

// 8.2
func TestSetAtEveryIndex(t *testing.T) {
	of := entries{0: zero, 20: raw(2, 8), 700: packed(5, 3, 40)}
	x := tableOf(of)
	for i := range 4096 {
		// The empty table becomes one of as many leaves as this needs.
		got := Set(api.Table{}, i, zero)
		if len(got.L) != i/8+1 || got.L[i/8][i%8] != zero {
			t.Errorf("Set of %d: %d leaves", i, len(got.L))
		}
		if i < 50 || i > 4080 || i%97 < 3 {
			for _, e := range []api.Entry{zero, raw(77, 8), packed(5, 7, 100), none} {
				checkSet(t, x, i, e, tableOf(of.with(i, e)))
				checkSet(t, api.Table{}, i, e, tableOf(entries{i: e}))
			}
		}
	}
}

// 8.2
func TestSetAtNoIndex(t *testing.T) {
	for _, of := range []entries{{}, {0: zero}, {9: raw(2, 8)}, {4095: zero}, fullTable(4096, 3)} {
		for _, i := range slices.Concat(farBelow, farBeyond) {
			for _, e := range []api.Entry{zero, raw(9, 8), none} {
				checkSet(t, tableOf(of), i, e, tableOf(of))
			}
		}
	}
}

// 8.2
func TestSetOfAnEntryThatIsNotValid(t *testing.T) {
	for _, of := range []entries{{}, {0: zero}, {3: raw(2, 1), 30: raw(5, 1)}, {9: packed(2, 60, 960)}, {4095: zero}} {
		for _, e := range noEntries {
			for _, i := range []int{-1, 0, 3, 9, 11, 31, 4095, 4096} {
				checkSet(t, tableOf(of), i, e, tableOf(of))
			}
		}
	}
}

// 8.2: the entries that are there and the new one are valid for clusters of one size, or nothing is set.
func TestSetOfAnEntryForAnotherCluster(t *testing.T) {
	for cluster := range 7 {
		for other := range 7 {
			there, e := raw(2, sectors(cluster)), raw(9, sectors(other))
			for _, i := range []int{0, 4, 7, 8, 40, 4095} {
				of := entries{3: zero, 5: there}
				if cluster == other {
					checkSet(t, tableOf(of), i, e, tableOf(of.with(i, e)))
				} else {
					checkSet(t, tableOf(of), i, e, tableOf(of))
				}
			}
			// Packed ones are valid for all clusters that are greater.
			small, of := packed(2, sectors(cluster), sectors(cluster)*16), entries{5: e}
			if cluster < other {
				checkSet(t, tableOf(of), 4, small, tableOf(entries{4: small, 5: e}))
				checkSet(t, tableOf(entries{4: small}), 5, e, tableOf(entries{4: small, 5: e}))
			} else {
				checkSet(t, tableOf(of), 4, small, tableOf(of))
				checkSet(t, tableOf(entries{4: small}), 5, e, tableOf(entries{4: small}))
			}
		}
	}
}

// 8.2: the entry in whose place another one comes counts too, even if it is the only one.
func TestSetInThePlaceOfAnEntryForAnotherCluster(t *testing.T) {
	for cluster := range 7 {
		for other := range 7 {
			there, e := raw(2, sectors(cluster)), raw(9, sectors(other))
			want := there
			if cluster == other {
				want = e
			}
			for _, i := range []int{0, 9, 4095} {
				checkSet(t, tableOf(entries{i: there}), i, e, tableOf(entries{i: want}))
				checkSet(t, tableOf(entries{i: there}), i, zero, tableOf(entries{i: zero}))
				checkSet(t, tableOf(entries{i: zero}), i, e, tableOf(entries{i: e}))
				checkSet(t, Set(tableOf(entries{i: there}), i, none), i, e, tableOf(entries{i: e}))
			}
		}
	}
}

// 8.2
func TestSetIntoATableThatIsNotValid(t *testing.T) {
	for _, x := range noTables() {
		for _, i := range []int{-1, 0, 1, 7, 8, 9, 16, 4095, 4096} {
			for _, e := range []api.Entry{none, zero, raw(20, 1), raw(20, 2), packed(20, 1, 3), {Kind: 4}} {
				checkSet(t, x, i, e, x)
			}
		}
	}
}

// 8.2
func TestSetOfNone(t *testing.T) {
	for _, of := range []entries{
		{}, {0: zero}, {9: zero}, {4095: zero}, {0: zero, 9: zero}, {0: zero, 16: raw(2, 4)}, {0: zero, 4095: zero}, {1: raw(2, 4), 3: zero, 80: packed(9, 3, 40), 800: zero},
		fullTable(20, 2), fullTable(4096, 2),
	} {
		for _, i := range []int{0, 1, 3, 7, 8, 9, 10, 16, 19, 20, 24, 80, 81, 800, 801, 808, 4088, 4094, 4095} {
			checkSet(t, tableOf(of), i, none, tableOf(of.with(i, none)))
		}
	}
}

// 8.2: a leaf within becomes absent; with the last leaf all absent leaves ahead of it go.
func TestSetOfNoneEmptiesLeaves(t *testing.T) {
	x := tableOf(entries{1: zero, 12: raw(2, 2), 47: raw(4, 2)})
	if len(x.L) != 6 {
		t.Fatal("not the table that is meant")
	}
	checkSet(t, x, 12, none, leaves(leafOf(none, zero), nil, nil, nil, nil, x.L[5]))
	checkSet(t, x, 1, none, leaves(nil, x.L[1], nil, nil, nil, x.L[5]))
	checkSet(t, x, 47, none, leaves(x.L[0], x.L[1]))
	x = Set(x, 12, none)
	checkSet(t, x, 47, none, leaves(leafOf(none, zero)))
	x = Set(x, 1, none)
	checkSet(t, x, 47, none, api.Table{})
	checkSet(t, leaves([]api.Entry{}, []api.Entry{}, leafOf(zero)), 16, none, api.Table{})
	checkSet(t, leaves(leafOf(none, zero), []api.Entry{}, []api.Entry{}, leafOf(zero)), 24, none, leaves(leafOf(none, zero)))
}

// cutOf is what Cut makes of the entries, by Set at each index.
func cutOf(x api.Table, n int) api.Table {
	for i := max(n, 0); i < 4096; i++ {
		x = Set(x, i, none)
	}
	return x
}

// 8.2
func TestCutAtEachIndex(t *testing.T) {
	for _, of := range []entries{{}, {0: zero}, {5: zero, 30: raw(2, 4)}, {3: zero, 5: raw(7, 4), 7: zero, 8: zero, 39: packed(4, 2, 30)}, fullTable(50, 2)} {
		for n := -10; n < 70; n++ {
			checkCut(t, tableOf(of), n, tableOf(of.ahead(n)))
		}
	}
	full := fullTable(4096, 2)
	for _, n := range []int{-1, 0, 1, 7, 8, 9, 15, 16, 17, 2047, 2048, 2049, 4087, 4088, 4089, 4095, 4096, 4097} {
		checkCut(t, tableOf(full), n, tableOf(full.ahead(n)))
	}
}

// 8.2
func TestCutBelowTheFirstIndexAndBeyondTheLast(t *testing.T) {
	for _, of := range []entries{{}, {0: zero}, {7: zero}, {9: raw(2, 4)}, {4095: zero}, fullTable(4096, 2)} {
		for _, n := range append(farBelow, 0) {
			checkCut(t, tableOf(of), n, api.Table{})
		}
		for _, n := range farBeyond {
			checkCut(t, tableOf(of), n, tableOf(of))
		}
	}
}

// 8.2: within a leaf, and at the end of one.
func TestCutWithinALeaf(t *testing.T) {
	x := tableOf(entries{1: zero, 6: zero, 8: zero, 29: raw(2, 2), 30: raw(4, 2)})
	checkCut(t, x, 31, x)
	checkCut(t, x, 30, leaves(x.L[0], x.L[1], nil, leafOf(none, none, none, none, none, raw(2, 2))))
	checkCut(t, x, 29, leaves(x.L[0], x.L[1]))
	checkCut(t, x, 24, leaves(x.L[0], x.L[1]))
	checkCut(t, x, 9, leaves(x.L[0], x.L[1]))
	checkCut(t, x, 8, leaves(x.L[0]))
	checkCut(t, x, 7, leaves(x.L[0]))
	checkCut(t, x, 6, leaves(leafOf(none, zero)))
	checkCut(t, x, 2, leaves(leafOf(none, zero)))
	checkCut(t, x, 1, api.Table{})
	checkCut(t, leaves([]api.Entry{}, []api.Entry{}, leafOf(none, zero)), 17, api.Table{})
}

// 8.2: as with Set, nothing happens to a table that is not valid.
func TestCutOfATableThatIsNotValid(t *testing.T) {
	for _, x := range noTables() {
		for _, n := range slices.Concat(farBelow, []int{0, 1, 5, 7, 8, 9, 16, 100}, farBeyond) {
			checkCut(t, x, n, x)
		}
	}
}

// 8.2
func TestCutIsWhatSetMakes(t *testing.T) {
	for _, x := range append(noTables()[:12], api.Table{}, tableOf(entries{3: zero, 9: raw(2, 1), 20: zero}), tableOf(fullTable(20, 4))) {
		for _, n := range []int{-1, 0, 5, 8, 9, 17} {
			checkCut(t, x, n, cutOf(x, n))
		}
	}
}

// 8.5
func TestGetAfterSet(t *testing.T) {
	for _, of := range []entries{{}, {0: zero}, {9: raw(2, 4), 100: packed(8, 3, 33)}, {4095: zero}, fullTable(40, 2)} {
		for _, i := range []int{0, 5, 8, 9, 40, 47, 100, 4094, 4095} {
			for _, e := range []api.Entry{zero, raw(77, 4), packed(5, 2, 32), none} {
				x := tableOf(of)
				y := Set(x, i, e)
				checkGet(t, y, i, e)
				for other := -3; other < 4100; other++ {
					if other != i {
						checkGet(t, y, other, Get(x, other))
					}
				}
			}
		}
	}
}

// 8.2, 8.5: whatever is set and cut, one after the other.
func TestAnySetsAndCuts(t *testing.T) {
	random := rand.New(rand.NewSource(82))
	for range 150 {
		of, x := entries{}, api.Table{}
		for range 60 {
			i, e := random.Intn(70)-3, someEntry(random.Intn(3)+2, random.Intn(1<<16))
			if random.Intn(20) == 0 {
				i = 4090 + random.Intn(8)
			}
			if random.Intn(3) == 0 {
				e = none
			}
			if random.Intn(15) == 0 {
				checkCut(t, x, i, tableOf(of.ahead(i)))
				of, x = of.ahead(i), Cut(x, i)
				continue
			}
			checkSet(t, x, i, e, tableOf(of.after(i, e)))
			of, x = of.after(i, e), Set(x, i, e)
		}
	}
}
