package count

import (
	"math"
	"math/rand"
	"slices"
	"testing"

	"matryoshka/api"
)

// 9.1: whatever else a meta has.
func TestEachOfNoEntries(t *testing.T) {
	for _, x := range []api.Table{{}, leaves(), leaves(nil), leaves([]api.Entry{}, nil), leaves(leafOf()), tableOf(none, zero, zero), leaves(nil, leafOf(none, zero), nil)} {
		checkEach(t, api.Meta{T: x}, nil)
		checkEach(t, metaOf(x), nil)
		checkEach(t, metaOf(x, x, x), nil)
		m := metaOf(x, x)
		m.Counts, m.Maps = []int{1, 1, 2, 3}, []api.Bitmap{{Name: "map", On: true, L: []api.Span{{From: 0, To: 9}}}}
		checkEach(t, m, nil)
	}
}

// 9.1: only EntryRaw and EntryPacked have lines, and each line has the whole entry.
func TestEachOfEachKind(t *testing.T) {
	a, b := raw(2, 8), packed(10, 3, 40)
	checkEach(t, metaOf(tableOf(none, zero, a, b)), []api.Line{line(-1, 2, a), line(-1, 3, b)})
	checkEach(t, metaOf(tableOf(b, zero, none, a)), []api.Line{line(-1, 0, b), line(-1, 3, a)})
	for _, kind := range slices.Concat(farBelow, farBeyond, []int{-3, -2, -1, 0, 1, 4, 5, 6, 258, 259}) {
		e := api.Entry{Kind: kind, Start: 2, Count: 8, Size: 3, Sum: 1}
		checkEach(t, metaOf(tableOf(e, a, e), tableOf(e)), []api.Line{line(-1, 1, a)})
	}
}

// 9.1: entries that are not valid have lines, too.
func TestEachOfWhatIsNotValid(t *testing.T) {
	for _, kind := range []int{2, 3} {
		for _, n := range slices.Concat(farBelow, farBeyond, []int{-1, 0, 1, 2}) {
			for _, e := range []api.Entry{{Kind: kind, Start: n}, {Kind: kind, Count: n}, {Kind: kind, Size: n}, {Kind: kind, Start: n, Count: n, Size: n, Sum: math.MaxUint32}} {
				checkEach(t, metaOf(tableOf(e), tableOf(none, e)), []api.Line{line(-1, 0, e), line(0, 1, e)})
			}
		}
	}
	m := metaOf(tableOf(raw(2, 3)))
	for _, n := range slices.Concat(farBelow, farBeyond) {
		m.Cluster, m.Size = n, n
		checkEach(t, m, []api.Line{line(-1, 0, raw(2, 3))})
	}
}

// 9.1: an entry at each index of a table has that index as its Cluster, those beyond MaxDisk, too.
func TestEachOfEachCluster(t *testing.T) {
	for _, cluster := range []int{0, 1, 6, 7, 8, 9, 15, 16, 17, 100, 4088, 4095, 4096, 4103, 5000, 65535, 65536} {
		l := make([][]api.Entry, cluster/8+1)
		l[cluster/8] = make([]api.Entry, 8)
		l[cluster/8][cluster%8] = raw(5, 1)
		checkEach(t, metaOf(leaves(l...)), []api.Line{line(-1, cluster, raw(5, 1))})
		checkEach(t, metaOf(leaves(), leaves(), leaves(l...)), []api.Line{line(1, cluster, raw(5, 1))})
		l[cluster/8] = l[cluster/8][:cluster%8+1]
		checkEach(t, metaOf(leaves(l...)), []api.Line{line(-1, cluster, raw(5, 1))})
		l[cluster/8] = l[cluster/8][:cluster%8]
		checkEach(t, metaOf(leaves(l...)), nil)
	}
}

// 9.1: absent leaves count for the Cluster, as leaves that are shorter than Fan do.
func TestEachOfAbsentAndShortLeaves(t *testing.T) {
	a, b, c := raw(2, 1), packed(7, 1, 1), raw(9, 4)
	checkEach(t, metaOf(leaves(nil, leafOf(a), []api.Entry{}, nil, leafOf(zero, b), nil)), []api.Line{line(-1, 8, a), line(-1, 33, b)})
	checkEach(t, metaOf(leaves([]api.Entry{a}, []api.Entry{b, c}, []api.Entry{none, zero, c, a, b, c, a})),
		[]api.Line{line(-1, 0, a), line(-1, 8, b), line(-1, 9, c), line(-1, 18, c), line(-1, 19, a), line(-1, 20, b), line(-1, 21, c), line(-1, 22, a)})
	checkEach(t, metaOf(leaves([]api.Entry{a}[:0:0], make([]api.Entry, 0, 8), leafOf(c)[:0], leafOf(b)[:1])), []api.Line{line(-1, 24, b)})
}

// 9.1: what stands in a leaf from Fan on is no entry of the table.
func TestEachOfLongLeaves(t *testing.T) {
	a, b := raw(2, 1), raw(7, 2)
	for length := 8; length < 40; length++ {
		leaf := slices.Repeat([]api.Entry{a}, length)
		var want []api.Line
		for cluster := range 8 {
			want = append(want, line(-1, cluster, a))
		}
		checkEach(t, metaOf(leaves(leaf)), want)
		checkEach(t, metaOf(leaves(leaf, []api.Entry{b})), append(want, line(-1, 8, b)))
	}
}

// 9.1: a line for each place where an entry is.
func TestEachOfTheSameEntry(t *testing.T) {
	a := packed(30, 2, 20)
	checkEach(t, metaOf(tableOf(a, a, zero, a), tableOf(a), tableOf(none, a, a)),
		[]api.Line{line(-1, 0, a), line(-1, 1, a), line(-1, 3, a), line(0, 0, a), line(1, 1, a), line(1, 2, a)})
	leaf := leafOf(a, none, a)
	checkEach(t, metaOf(leaves(leaf, nil, leaf), leaves(leaf)),
		[]api.Line{line(-1, 0, a), line(-1, 2, a), line(-1, 16, a), line(-1, 18, a), line(0, 0, a), line(0, 2, a)})
}

// 9.1: shots in their order, whatever their names, sizes and entries are, and however many there are.
func TestEachOfShots(t *testing.T) {
	a, b, c := raw(50, 1), raw(2, 1), raw(20, 1)
	m := metaOf(tableOf(none, none, a), tableOf(b, none, c), api.Table{}, tableOf(zero, c), leaves(nil, leafOf(), nil), tableOf(a))
	want := []api.Line{line(-1, 2, a), line(0, 0, b), line(0, 2, c), line(2, 1, c), line(4, 0, a)}
	checkEach(t, m, want)
	for i := range m.Shots {
		m.Shots[i].Name, m.Shots[i].Size = string(rune('z'-i)), -i
	}
	checkEach(t, m, want)
	checkEach(t, metaOf(api.Table{}, tableOf(a)), []api.Line{line(0, 0, a)})
	var many []api.Table
	want = nil
	for shot := range 40 {
		many = append(many, tableOf(none, raw(shot, 1)))
		want = append(want, line(shot, 1, raw(shot, 1)))
	}
	checkEach(t, metaOf(api.Table{}, many...), want)
}

// 9.1
func TestEachOfManyMetas(t *testing.T) {
	random := rand.New(rand.NewSource(1))
	for range 3000 {
		m := anyMeta(random)
		checkEach(t, m, linesOf(m))
	}
}

// 9.1: the iterators stop where nothing more is asked for.
func TestIteratorsStop(t *testing.T) {
	for _, m := range someMetas() {
		want := linesOf(m)
		for length := range len(want) {
			var got []api.Line
			for l := range lines(m) {
				got = append(got, l)
				if len(got) > length {
					break
				}
			}
			if !slices.Equal(got, want[:length+1]) {
				t.Errorf("%v, want %v", got, want[:length+1])
			}
		}
		for last := -1; last < len(m.Shots); last++ {
			for shot := range tables(m) {
				if shot == last {
					break
				}
			}
		}
	}
}
