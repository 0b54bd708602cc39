package shots

import (
	"fmt"
	"slices"
	"testing"

	"matryoshka/api"
)

const most = 1 << 30 // what all numbers of a set are below

// checkBack holds a meta behind Back against one with the Size and the table of a shot, and with these bitmaps.
func checkBack(t *testing.T, m api.Meta, name string, place int, maps []api.Bitmap) {
	t.Helper()
	wanted := m
	wanted.Size, wanted.T, wanted.Maps = m.Shots[place].Size, m.Shots[place].T, maps
	got, errno := Back(m, name)
	want(t, fmt.Sprintf("Back(%+v, %q)", m, name), got, wanted)
	want(t, "its error", errno, api.OK)
}

// backMeta is a meta with one shot.
func backMeta(cluster, was, now int, maps ...api.Bitmap) api.Meta {
	m := right()
	m.Cluster, m.Size, m.Maps = cluster, was, maps
	m.Shots = shotsOf("s")
	m.Shots[0].Size = now
	return m
}

// 12.2: to a shot that is smaller, just as large, and larger.
func TestBackToOtherSizes(t *testing.T) {
	for _, c := range []struct {
		now       int
		on, steps []api.Span
	}{
		{12, []api.Span{s(0, 6)}, []api.Span{s(1, 2), s(4, 6)}},
		{10, []api.Span{s(0, 5)}, []api.Span{s(1, 2), s(4, 5)}},
		{9, []api.Span{s(0, 4)}, []api.Span{s(1, 2)}},
		{8, []api.Span{s(0, 4)}, []api.Span{s(1, 2)}},
		{3, []api.Span{s(0, 1)}, nil},
		{1, nil, nil},
		{0, nil, nil},
		{13, []api.Span{s(0, 6)}, []api.Span{s(1, 2), s(4, 6)}},
		{14, []api.Span{s(0, 7)}, []api.Span{s(1, 2), s(4, 6)}},
		{4096, []api.Span{s(0, 2048)}, []api.Span{s(1, 2), s(4, 6)}},
	} {
		m := backMeta(1, 12, c.now, on("m", s(1, 2), s(4, 6)), off("n", s(1, 2), s(4, 6)), on("e"), off("f"))
		checkBack(t, m, "s", 0, []api.Bitmap{on("m", c.on...), off("n", c.steps...), on("e", c.on...), off("f")})
	}
}

// 12.2: without a bitmap, and from no cluster to none and to some.
func TestBackWithoutClusters(t *testing.T) {
	checkBack(t, backMeta(1, 12, 8), "s", 0, nil)
	checkBack(t, backMeta(0, 0, 0, on("m"), off("n")), "s", 0, []api.Bitmap{on("m"), off("n")})
	checkBack(t, backMeta(0, 0, 5, on("m"), off("n")), "s", 0, []api.Bitmap{on("m", s(0, 5)), off("n")})
	checkBack(t, backMeta(6, 63, 63, on("m"), off("n")), "s", 0, []api.Bitmap{on("m"), off("n")})
	checkBack(t, backMeta(6, 63, 64, on("m"), off("n")), "s", 0, []api.Bitmap{on("m", s(0, 1)), off("n")})
	checkBack(t, backMeta(6, 64, 63, on("m", s(0, 1)), off("n", s(0, 1))), "s", 0, []api.Bitmap{on("m"), off("n")})
	checkBack(t, backMeta(2, 0, 15, off("n", s(1, 9))), "s", 0, []api.Bitmap{off("n", s(1, 3))})
}

// 12.2: what lies beyond the new number of clusters is removed, whether the meta had such clusters or not.
func TestBackWithSpansBeyondTheEnd(t *testing.T) {
	l := []api.Span{s(0, 2), s(3, 5), s(7, 100), s(200, most)}
	checkBack(t, backMeta(0, 5, 9, on("m", l...), off("n", l...)), "s", 0, []api.Bitmap{on("m", s(0, 9)), off("n", s(0, 2), s(3, 5), s(7, 9))})
	checkBack(t, backMeta(0, 9, 5, on("m", l...), off("n", l...)), "s", 0, []api.Bitmap{on("m", s(0, 5)), off("n", s(0, 2), s(3, 5))})
	checkBack(t, backMeta(0, 4, 4, on("m", l...), off("n", l...)), "s", 0, []api.Bitmap{on("m", s(0, 4)), off("n", s(0, 2), s(3, 4))})
	checkBack(t, backMeta(0, 4, 201, off("n", l...)), "s", 0, []api.Bitmap{off("n", s(0, 2), s(3, 5), s(7, 100), s(200, 201))})
}

// noLists are lists of spans that are not valid.
func noLists() [][]api.Span {
	return [][]api.Span{{s(3, 3)}, {s(5, 4)}, {s(-1, 2)}, {s(0, most+1)}, {s(0, 2), s(2, 4)}, {s(0, 3), s(2, 4)}, {s(6, 7), s(1, 2)}, {s(1, 2), s(1, 2)}, {s(0, 1), s(9, 9)}}
}

// 12.2 with 4.1: a list that is not valid is treated like an empty one.
func TestBackWithNoLists(t *testing.T) {
	for _, l := range noLists() {
		for _, now := range []int{0, 3, 8, 20} {
			var all []api.Span
			if now > 0 {
				all = []api.Span{s(0, now)}
			}
			checkBack(t, backMeta(0, 8, now, on("m", l...), off("n", l...), on("o", s(1, 2))), "s", 0, []api.Bitmap{on("m", all...), off("n"), on("o", all...)})
		}
	}
}

// 12.2: there are no clusters where Size is below 0, or Cluster is not from 0 to MaxCluster.
func TestBackInMetasWithoutANumberOfClusters(t *testing.T) {
	given := []api.Bitmap{on("m", s(1, 2), s(7, 9)), off("n", s(0, 3)), on("x", s(4, 2))}
	for _, c := range [][3]int{{-1, 8, 16}, {7, 1024, 2048}, {64, 1, 1 << 62}, {-1 << 63, 4, 4}, {1<<63 - 1, 4, 4}, {0, 5, -1}, {1, 5, -2}, {6, 64, -1 << 63}, {3, -1, -1}, {2, -9, 3}} {
		checkBack(t, backMeta(c[0], c[1], c[2], given...), "s", 0, []api.Bitmap{on("m"), off("n"), on("x")})
	}
	for _, was := range []int{-1, -64, -1 << 63} {
		checkBack(t, backMeta(2, was, 16, given...), "s", 0, []api.Bitmap{on("m", s(0, 4)), off("n", s(0, 3)), on("x", s(0, 4))})
	}
	checkBack(t, backMeta(6, 6400, 640, given...), "s", 0, []api.Bitmap{on("m", s(0, 10)), off("n", s(0, 3)), on("x", s(0, 10))})
}

// 12.2 with 13.2 and 4.1: from 2^30 + 1 clusters on, nothing is removed, and there is no span of them all.
func TestBackWithMoreClustersThanNumbers(t *testing.T) {
	l := []api.Span{s(1, 2), s(7, 9), s(most-1, most)}
	bad := []api.Span{s(4, 2)}
	given := []api.Bitmap{on("m", l...), off("n", l...), on("x", bad...), off("y", bad...)}
	all := []api.Span{s(0, most)}
	checkBack(t, backMeta(0, most, most, given...), "s", 0, []api.Bitmap{on("m", all...), off("n", l...), on("x", all...), off("y")})
	checkBack(t, backMeta(0, 3, most, given...), "s", 0, []api.Bitmap{on("m", all...), off("n", l...), on("x", all...), off("y")})
	checkBack(t, backMeta(0, most, 8, given...), "s", 0, []api.Bitmap{on("m", s(0, 8)), off("n", s(1, 2), s(7, 8)), on("x", s(0, 8)), off("y")})
	for _, was := range []int{most + 1, 1 << 40, 1<<63 - 1} {
		checkBack(t, backMeta(0, was, 8, given...), "s", 0, []api.Bitmap{on("m", s(0, 9), s(most-1, most)), off("n", l...), on("x", s(0, 8)), off("y", bad...)})
		checkBack(t, backMeta(0, was, 0, given...), "s", 0, []api.Bitmap{on("m", l...), off("n", l...), on("x"), off("y", bad...)})
	}
	for _, now := range []int{most + 1, 1 << 40, 1<<63 - 1} {
		for _, was := range []int{0, 8, most, most + 1, 1<<63 - 1} {
			checkBack(t, backMeta(0, was, now, given...), "s", 0, []api.Bitmap{on("m", l...), off("n", l...), on("x"), off("y", bad...)})
		}
	}
	checkBack(t, backMeta(6, 8<<6, most<<6+63, given...), "s", 0, []api.Bitmap{on("m", all...), off("n", l...), on("x", all...), off("y")})
	checkBack(t, backMeta(6, 8<<6, (most+1)<<6, given...), "s", 0, []api.Bitmap{on("m", l...), off("n", l...), on("x"), off("y", bad...)})
}

// 12.2: the first shot of a name counts, and all of them stay.
func TestBackToTheFirstOfOneName(t *testing.T) {
	m := right()
	m.Shots = shotsOf("b", "a", "c", "a", "a")
	checkBack(t, m, "a", 1, []api.Bitmap{on("m", s(0, 5)), off("n", s(0, 2), s(4, 5))})
	checkBack(t, m, "b", 0, []api.Bitmap{on("m", s(0, 4)), off("n", s(0, 2))})
	checkBack(t, m, "c", 2, []api.Bitmap{on("m", s(0, 7)), off("n", s(0, 2), s(4, 6))})
	got, _ := Back(m, "a")
	want(t, "the names", namesOf(got), "b a c a a")
}

// 12.2: what is not right is taken as it is.
func TestBackInWrongMetas(t *testing.T) {
	for _, m := range wrongs() {
		for name, place := range map[string]int{"a": 0, "": 1, "No Name": 3, "\xff\x00": 4} {
			checkBack(t, m, name, place, mapsBack(m, m.Shots[place].Size))
		}
	}
}

// numbersOf are the numbers of a list below an end; an invalid list has none.
func numbersOf(l []api.Span, end int) map[int]bool {
	in := map[int]bool{}
	for i, x := range l {
		if x.From < 0 || x.To > most || x.From >= x.To || i > 0 && x.From <= l[i-1].To {
			return nil
		}
		for n := x.From; n < min(x.To, end); n++ {
			in[n] = true
		}
	}
	return in
}

// spansOf is the list of the numbers below an end.
func spansOf(in map[int]bool, end int) []api.Span {
	var l []api.Span
	for n := range end {
		switch {
		case !in[n]:
		case n > 0 && in[n-1]:
			l[len(l)-1].To++
		default:
			l = append(l, s(n, n+1))
		}
	}
	return l
}

// mapsBack goes by the words of 12.2 and 13.2, one number at a time; what it cannot count it leaves to the other tests.
func mapsBack(m api.Meta, size int) []api.Bitmap {
	was, now := 0, 0
	if 0 <= m.Cluster && m.Cluster <= 6 {
		was, now = max(m.Size, 0)/(1<<m.Cluster), max(size, 0)/(1<<m.Cluster)
	}
	var all []api.Bitmap
	for _, b := range m.Maps {
		if was > most || now > most {
			if b.On {
				b.L = nil
				if 0 < now && now <= most {
					b.L = []api.Span{s(0, now)}
				}
			}
			all = append(all, b)
			continue
		}
		in := numbersOf(b.L, now)
		b.L = spansOf(in, now)
		if b.On && now > 0 {
			b.L = []api.Span{s(0, now)}
		}
		all = append(all, b)
	}
	return all
}

// 12.2: each of many small sets, to and from each number of clusters.
func TestBackOfAllSmallSets(t *testing.T) {
	const clusters = 6
	for bits := range 1 << clusters {
		in := map[int]bool{}
		for n := range clusters {
			in[n] = bits>>n&1 == 1
		}
		l := spansOf(in, clusters)
		for was := range clusters + 2 {
			for now := range clusters + 2 {
				m := backMeta(2, 4*was+was%4, 4*now+3, on("m", l...), off("n", l...), on("m", l...), off("m", l...))
				checkBack(t, m, "s", 0, mapsBack(m, 4*now+3))
			}
		}
	}
}

// 12.3: behind Add and Back with one name the table is what it was, whatever became of it in between.
func TestBackToWhatItWas(t *testing.T) {
	for _, m := range append(wrongs(), right(), api.Meta{}) {
		added, errno := Add(m, "x")
		want(t, "Add", errno, api.OK)
		same, errno := Back(added, "x")
		want(t, "Back", errno, api.OK)
		want(t, "at once", same.T, m.T)
		added.T, added.Size = api.Table{L: [][]api.Entry{slices.Repeat([]api.Entry{zero}, 8)}}, 99
		back, errno := Back(added, "x")
		want(t, "Back", errno, api.OK)
		want(t, "the table", back.T, m.T)
		want(t, "the size", back.Size, m.Size)
	}
}
