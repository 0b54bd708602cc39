package meta

import (
	"fmt"
	"math"
	"slices"
	"strings"
	"testing"

	"matryoshka/api"
)

// checkRight is that a meta is valid, and that Put does not refuse it.
func checkRight(t *testing.T, what string, m api.Meta) {
	t.Helper()
	if _, errno := Put(m); !Right(m) || errno != api.OK {
		t.Errorf("%s: %.2000s is not right: %d", what, fmt.Sprintf("%+v", m), errno)
	}
}

// checkNotRight is that a meta is not valid, and that Put refuses it.
func checkNotRight(t *testing.T, what string, m api.Meta) {
	t.Helper()
	if b, errno := Put(m); Right(m) || errno != api.ErrArg || b != nil {
		t.Errorf("%s: %.2000s is right: %x, %d", what, fmt.Sprintf("%+v", m), b, errno)
	}
}

// check is one of these two.
func check(t *testing.T, what string, m api.Meta, right bool) {
	t.Helper()
	if right {
		checkRight(t, what, m)
	} else {
		checkNotRight(t, what, m)
	}
}

// farNumbers are those that are no number of anything.
var farNumbers = []int{math.MinInt, math.MinInt + 1, math.MinInt + 64, -1 << 32, -4096, -64, -1, 1 << 16, 1 << 20, 1 << 32, 1<<32 + 64, 1 << 62, math.MaxInt - 63, math.MaxInt - 1, math.MaxInt}

// noNames are texts that are no valid names; the empty one is among them.
var noNames = []string{"", "A", "a b", "a/b", "é", "a\x00", "\xff", "0123456789abcdefg", strings.Repeat("a", 17), strings.Repeat("a", 65536), strings.Repeat("a", 70000), "Z9", "a+", "`", "{", ":", " ", "a "}

var someNames = []string{"a", "z", "0", "9", "-", "_", ".", "..", "a-b_c.d", "0123456789abcdef", strings.Repeat(".", 16)}

// 14.1
func TestRightOfMetas(t *testing.T) {
	for i, m := range append(metas(), large()) {
		checkRight(t, fmt.Sprint("meta ", i), m)
	}
}

// 14.1
func TestRightCluster(t *testing.T) {
	for cluster := -70; cluster < 200; cluster++ {
		check(t, "an empty image", api.Meta{Cluster: cluster}, 0 <= cluster && cluster <= 6)
		check(t, "a whole one", api.Meta{Cluster: cluster, Size: 4096}, 0 <= cluster && cluster <= 6)
	}
	for _, cluster := range farNumbers {
		checkNotRight(t, "Cluster", api.Meta{Cluster: cluster})
	}
}

// 14.1: of the image and of its shots.
func TestRightSize(t *testing.T) {
	for cluster := range 7 {
		for _, size := range append(numbersUpTo(5000), farNumbers...) {
			right := 0 <= size && size <= 4096 && size%(1<<cluster) == 0
			check(t, "Size", api.Meta{Cluster: cluster, Size: size}, right)
			check(t, "a shot's Size", api.Meta{Cluster: cluster, Shots: []api.Shot{{Name: "s", Size: size}}}, right)
			check(t, "the second one's", api.Meta{Cluster: cluster, Size: 64, Shots: []api.Shot{{Name: "s"}, {Name: "t", Size: size}}}, right)
		}
	}
}

// numbersUpTo are the numbers from -100 to n.
func numbersUpTo(n int) []int {
	var l []int
	for i := -100; i <= n; i++ {
		l = append(l, i)
	}
	return l
}

// 14.1
func TestRightBack(t *testing.T) {
	checkRight(t, "no Back", api.Meta{})
	for _, name := range someNames {
		checkRight(t, "Back", api.Meta{Back: name})
	}
	for _, name := range noNames[1:] {
		checkNotRight(t, "Back", api.Meta{Back: name})
	}
}

// 14.1: the last cluster of an image may have an entry, and none beyond it, whatever the clusters of another one are.
func TestRightTables(t *testing.T) {
	for cluster := range 7 {
		for _, clusters := range []int{0, 1, 7, 8, 9, 63, 64} {
			size := clusters << cluster
			for _, i := range []int{0, 1, 6, 7, 8, 9, 15, 62, 63, 64, 65, 511, 4095, 4096} {
				for _, e := range []api.Entry{zero, raw(2, 1<<cluster)} {
					x := at(i, e)
					check(t, "T", api.Meta{Cluster: cluster, Size: size, T: x}, i < clusters)
					check(t, "T beside a shot", api.Meta{Cluster: cluster, Size: size, T: x, Shots: []api.Shot{{Name: "s", Size: 4096}}}, i < clusters)
					check(t, "a shot's", api.Meta{Cluster: cluster, Size: 4096, Shots: []api.Shot{{Name: "s", Size: size, T: x}}}, i < clusters)
					check(t, "the second one's", api.Meta{Cluster: cluster, Shots: []api.Shot{{Name: "s", Size: 4096}, {Name: "t", Size: size, T: x}}}, i < clusters)
				}
			}
		}
	}
}

// 14.1 with 8.1 and 7.1
func TestRightOfTablesThatAreNotValid(t *testing.T) {
	for _, x := range []api.Table{
		leaves(nil), leaves([]api.Entry{}), leaves(leafOf()), leaves(leafOf(zero), nil), leaves(leafOf(zero)[:7]), leaves(append(leafOf(zero), api.Entry{})),
		at(0, raw(2, 3)), at(0, raw(1, 4)), at(0, raw(65533, 4)), at(0, packed(2, 4, 64)), at(0, packed(2, 2, 16)), at(0, packed(2, 2, 33)), at(0, api.Entry{Kind: 4}), at(0, api.Entry{Kind: -1}),
		at(0, api.Entry{Kind: 1, Sum: 1}), leaves(leafOf(zero, api.Entry{Start: 1})), at(0, raw(math.MaxInt, 4)), at(0, raw(math.MinInt, 4)), at(0, raw(1<<32, 4)), at(5000, zero), {L: make([][]api.Entry, 1<<20)},
	} {
		checkNotRight(t, "T", api.Meta{Cluster: 2, Size: 4096, T: x})
		checkNotRight(t, "a shot's", api.Meta{Cluster: 2, Size: 4096, Shots: []api.Shot{{Name: "s", Size: 4096, T: x}}})
		checkNotRight(t, "the last one's", api.Meta{Cluster: 2, Shots: append(shotsOf(7), api.Shot{Name: "s", Size: 4096, T: x})})
	}
	checkRight(t, "empty leaves", api.Meta{Cluster: 2, Size: 4096, T: leaves([]api.Entry{}, make([]api.Entry, 0, 8), leafOf(zero))})
}

func shotsOf(n int) []api.Shot {
	var l []api.Shot
	for i := range n {
		l = append(l, api.Shot{Name: fmt.Sprint("s", i)})
	}
	return l
}

func mapsOf(n int) []api.Bitmap {
	var l []api.Bitmap
	for i := range n {
		l = append(l, api.Bitmap{Name: fmt.Sprint("s", i), On: i%2 == 0, L: []api.Span{s(i, i+1)}})
	}
	return l
}

// 14.1
func TestRightNumbersOfThings(t *testing.T) {
	for n := range 300 {
		check(t, "Shots", api.Meta{Shots: shotsOf(n)}, n <= 8)
		check(t, "Maps", api.Meta{Maps: mapsOf(n)}, n <= 8)
		check(t, "both", api.Meta{Shots: shotsOf(min(n, 8)), Maps: mapsOf(min(n, 8))}, true)
	}
	for _, n := range []int{1, 2, 65534, 65535, 65536, 65537, 65536 + 65535, 1 << 17, 1 << 20} {
		check(t, "Counts", api.Meta{Counts: make([]int, n)}, n <= 65536)
		check(t, "unlike ones", api.Meta{Counts: unlike(n)}, n <= 65536)
	}
	checkNotRight(t, "Shots", api.Meta{Shots: make([]api.Shot, 1<<20)})
	checkNotRight(t, "Maps", api.Meta{Maps: make([]api.Bitmap, 1<<20)})
	checkNotRight(t, "131071 equal ones", api.Meta{Counts: same(131071, 5)})
}

// 14.1
func TestRightNames(t *testing.T) {
	for n := 1; n <= 8; n++ {
		for i := range n {
			for _, name := range slices.Concat(someNames, noNames) {
				right := slices.Contains(someNames, name)
				x, y := shotsOf(n), mapsOf(n)
				x[i].Name, y[i].Name = name, name
				check(t, "a shot's", api.Meta{Shots: x}, right)
				check(t, "a bitmap's", api.Meta{Maps: y}, right)
			}
		}
	}
}

// 14.1: no two shots, and no two bitmaps, have one name; a shot and a bitmap may, and the image itself has none.
func TestRightNamesThatAreEqual(t *testing.T) {
	for n := 2; n <= 8; n++ {
		for i := range n {
			for j := range n {
				x, y := shotsOf(n), mapsOf(n)
				x[i].Name, y[i].Name = x[j].Name, y[j].Name
				check(t, "shots", api.Meta{Shots: x}, i == j)
				check(t, "bitmaps", api.Meta{Maps: y}, i == j)
			}
		}
	}
	checkRight(t, "a shot and a bitmap", api.Meta{Back: "s1", Shots: shotsOf(8), Maps: mapsOf(8)})
}

// 14.1
func TestRightSets(t *testing.T) {
	sets := [][]api.Span{
		nil, {}, {s(0, 1)}, {s(0, 4096)}, {s(4095, 4096)}, {s(4094, 4095)}, {s(0, 1), s(2, 3)}, {s(0, 4094), s(4095, 4096)}, manySpans(),
	}
	noSets := [][]api.Span{
		{s(0, 0)}, {s(3, 3)}, {s(5, 4)}, {s(-1, 2)}, {s(0, 2), s(2, 4)}, {s(0, 3), s(2, 4)}, {s(5, 6), s(1, 2)}, {s(1, 2), s(1, 2)}, {s(0, 1), s(9, 9)},
		{s(0, 4097)}, {s(4095, 4097)}, {s(4096, 4097)}, {s(0, 1), s(4096, 4097)}, {s(0, 1), s(2, 4097)}, {s(4096, 4096)}, {s(0, 1<<30)}, {s(0, 1<<30+1)}, {s(0, 65536)}, {s(65536, 65537)},
		{s(math.MinInt, math.MaxInt)}, {s(0, math.MaxInt)}, {s(0, 1), s(65538, 65539)}, {s(4097, 4098), s(0, 1)}, append(manySpans(), s(4096, 4097)), append(manySpans(), s(0, 1)), make([]api.Span, 65536), make([]api.Span, 65537),
	}
	for i, set := range append(sets, noSets...) {
		for n := 1; n <= 8; n++ {
			for place := range n {
				y := mapsOf(n)
				y[place].L = set
				check(t, fmt.Sprint("set ", i), api.Meta{Maps: y}, i < len(sets))
				check(t, fmt.Sprint("set of a larger image ", i), api.Meta{Cluster: 1, Size: 4096, Maps: y}, i < len(sets))
			}
		}
	}
}

// 14.1: at each place of the counts.
func TestRightCounts(t *testing.T) {
	for _, n := range append(farNumbers, 0, 1, 65534, 65535, 65537) {
		for _, length := range []int{1, 2, 3, 65536} {
			for _, place := range []int{0, length / 2, length - 1} {
				counts := make([]int, length)
				counts[place] = n
				check(t, fmt.Sprintf("count %d of %d", place, length), api.Meta{Counts: counts}, 0 <= n && n <= 65535)
			}
		}
	}
}

// R1: nothing panics, whatever the numbers are.
func TestRightOfAnyNumbers(t *testing.T) {
	for _, a := range farNumbers {
		for _, b := range farNumbers {
			e := api.Entry{Kind: a & 3, Start: a, Count: b, Size: a}
			for _, cluster := range []int{0, 3, 6, a} {
				checkNotRight(t, "numbers", api.Meta{Cluster: cluster, Size: b, Back: "\xff", T: at(3, e), Counts: []int{a, b}})
				checkNotRight(t, "shots", api.Meta{Cluster: cluster, Shots: []api.Shot{{Name: "s", Size: a, T: at(0, e)}, {Name: "t", Size: b}}})
				checkNotRight(t, "bitmaps", api.Meta{Cluster: cluster, Maps: []api.Bitmap{on("m", s(a, b)), on("m", s(b, a))}})
			}
		}
	}
}
