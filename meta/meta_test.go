package meta

import (
	"fmt"
	"math"
	"math/rand"
	"slices"
	"strings"
	"sync"
	"testing"

	"matryoshka/api"
)

func want[T any](t *testing.T, what string, got, wanted T) {
	t.Helper()
	if g, w := fmt.Sprintf("%+v", got), fmt.Sprintf("%+v", wanted); g != w {
		t.Fatalf("%s: %.2000s, want %.2000s", what, g, w)
	}
}

var zero = api.Entry{Kind: api.EntryZero}

func raw(start, count int) api.Entry {
	return api.Entry{Kind: api.EntryRaw, Start: start, Count: count, Sum: uint32(start) * 0x01020305}
}

func packed(start, count, size int) api.Entry {
	return api.Entry{Kind: api.EntryPacked, Start: start, Count: count, Size: size, Sum: math.MaxUint32}
}

// leafOf has these entries and then EntryNone, up to eight of them.
func leafOf(first ...api.Entry) []api.Entry {
	return append(slices.Clone(first), make([]api.Entry, 8-len(first))...)
}

func leaves(l ...[]api.Entry) api.Table {
	return api.Table{L: l}
}

// at is the table with one entry alone.
func at(i int, e api.Entry) api.Table {
	l := make([][]api.Entry, i/8+1)
	l[i/8] = make([]api.Entry, 8)
	l[i/8][i%8] = e
	return api.Table{L: l}
}

// fullTable has an entry in each of n clusters.
func fullTable(n, cluster int) api.Table {
	var t api.Table
	for i := range n {
		if i%8 == 0 {
			t.L = append(t.L, make([]api.Entry, 8))
		}
		t.L[i/8][i%8] = raw(2+i%60000, 1<<cluster)
	}
	return t
}

func s(from, to int) api.Span {
	return api.Span{From: from, To: to}
}

func on(name string, l ...api.Span) api.Bitmap {
	return api.Bitmap{Name: name, On: true, L: l}
}

func off(name string, l ...api.Span) api.Bitmap {
	return api.Bitmap{Name: name, L: l}
}

// manySpans are as many spans as a set of numbers below 4096 can have.
func manySpans() []api.Span {
	var l []api.Span
	for n := 0; n < 4096; n += 2 {
		l = append(l, s(n, n+1))
	}
	return l
}

// same are so many equal counts.
func same(n, count int) []int {
	return slices.Repeat([]int{count}, n)
}

// unlike are so many counts, each unlike its neighbours.
func unlike(n int) []int {
	var l []int
	for i := range n {
		l = append(l, i%2*65535)
	}
	return l
}

// small is a meta with every part.
func small() api.Meta {
	return api.Meta{
		Cluster: 2, Size: 36, Back: "base-1_x.img",
		T: leaves(leafOf(api.Entry{}, api.Entry{Kind: 2, Start: 0x1234, Count: 4, Sum: 0xa1b2c3d4}, packed(7, 3, 41)), leafOf(zero)),
		Shots: []api.Shot{
			{Name: "monday", Size: 68, T: leaves(nil, nil, leafOf(packed(9, 1, 1)))},
			{Name: "b"},
			{Name: "0123456789abcdef", Size: 4096, T: at(1023, api.Entry{Kind: 2, Start: 65532, Count: 4, Sum: 5})},
		},
		Maps:   []api.Bitmap{on("b", s(0, 2), s(258, 4096)), off("none"), on("x"), off("y", s(4095, 4096))},
		Counts: []int{1, 1, 0, 0, 0, 258, 65535, 65535, 258, 0},
	}
}

// large is the meta with the longest encoding.
func large() api.Meta {
	m := api.Meta{Size: 4096, Back: "0123456789abcdef", T: fullTable(4096, 0), Counts: unlike(65536)}
	for i := range 8 {
		name := strings.Repeat(fmt.Sprint(i), 16)
		m.Shots = append(m.Shots, api.Shot{Name: name, Size: 4096, T: fullTable(4096, 0)})
		m.Maps = append(m.Maps, api.Bitmap{Name: name, On: i%2 == 0, L: manySpans()})
	}
	return m
}

// metas are valid ones of several kinds.
func metas() []api.Meta {
	all := []api.Meta{
		{}, small(), {Back: "a"}, {Size: 1, T: at(0, zero)}, {Size: 4096, T: at(4095, raw(2, 1))}, {Cluster: 6}, {Cluster: 6, Size: 4096, T: fullTable(64, 6)},
		{Cluster: 3, Size: 800, T: at(99, packed(2, 7, 100))}, {Shots: []api.Shot{{Name: "s"}}}, {Shots: []api.Shot{{Name: "s", Size: 9, T: at(8, zero)}, {Name: "t"}}},
		{Maps: []api.Bitmap{on("m")}}, {Maps: []api.Bitmap{off("m", s(0, 4096))}}, {Maps: []api.Bitmap{on("m", manySpans()...)}},
		{Back: "s", Shots: []api.Shot{{Name: "s"}}, Maps: []api.Bitmap{off("s")}},
	}
	for _, counts := range someCounts() {
		all = append(all, api.Meta{Counts: counts})
	}
	return all
}

// someCounts are counts with runs of many kinds.
func someCounts() [][]int {
	return [][]int{
		{0}, {1}, {65535}, {0, 0}, {0, 1}, {1, 0, 1}, {5, 5, 5, 7, 5, 5}, same(65534, 3), same(65535, 3), same(65536, 3), same(65535, 0), same(65536, 65535),
		append(same(65535, 3), 4), append(same(65534, 3), 4, 3), append(same(65534, 4), 3, 3), append([]int{4}, same(65535, 3)...), append([]int{3, 4}, same(65534, 3)...),
		unlike(2), unlike(999), unlike(65535), unlike(65536), slices.Concat(same(300, 9), unlike(300), same(70, 0)),
	}
}

// someName is a valid name that no other number has.
func someName(random *rand.Rand, k int) string {
	return fmt.Sprint(k) + strings.Repeat(string("abxyz-_."[random.Intn(8)]), random.Intn(15))
}

// someTable is a table that is valid for this many clusters.
func someTable(random *rand.Rand, n, cluster int) api.Table {
	if n == 0 || random.Intn(4) == 0 {
		return api.Table{}
	}
	t := at(random.Intn(n), zero)
	for range random.Intn(12) {
		i := random.Intn(len(t.L) * 8)
		if i >= n {
			continue
		}
		e := raw(2+random.Intn(60000), 1<<cluster)
		if k := random.Intn(3); k == 1 && cluster > 0 {
			count := 1 + random.Intn(1<<cluster-1)
			e = packed(2+random.Intn(60000), count, count*16-random.Intn(16))
		} else if k == 2 {
			e = zero
		}
		if t.L[i/8] == nil {
			t.L[i/8] = make([]api.Entry, 8)
		}
		t.L[i/8][i%8] = e
	}
	return t
}

func someSpans(random *rand.Rand) []api.Span {
	var l []api.Span
	for n := random.Intn(40); n < 4096 && len(l) < 20; n += 1 + random.Intn(400) {
		to := min(4096, n+1+random.Intn(300))
		l = append(l, s(n, to))
		n = to
	}
	return l
}

// someMeta is any valid meta.
func someMeta(random *rand.Rand) api.Meta {
	m := api.Meta{Cluster: random.Intn(7)}
	clusters := func() int {
		return random.Intn(min(200, 4096>>m.Cluster) + 1)
	}
	n := clusters()
	m.Size, m.T = n<<m.Cluster, someTable(random, n, m.Cluster)
	if random.Intn(2) == 0 {
		m.Back = someName(random, 1)
	}
	for k := range random.Intn(9) {
		n := clusters()
		m.Shots = append(m.Shots, api.Shot{Name: someName(random, k), Size: n << m.Cluster, T: someTable(random, n, m.Cluster)})
	}
	for k := range random.Intn(9) {
		m.Maps = append(m.Maps, api.Bitmap{Name: someName(random, k), On: random.Intn(2) == 0, L: someSpans(random)})
	}
	for range random.Intn(6) {
		m.Counts = append(m.Counts, same(random.Intn(400), []int{0, 1, 2, 258, 65535}[random.Intn(5)])...)
	}
	return m
}

// R1 and R5: the same calls have the same results, whatever runs beside them.
func TestCallsShareNothing(t *testing.T) {
	all := append(metas()[:14], api.Meta{Cluster: 7}, api.Meta{Counts: []int{-1}})
	told := func(m api.Meta) string {
		b, errno := Put(m)
		again, other := Get(b)
		return fmt.Sprint(Right(m), b, errno, again, other)
	}
	var wanted []string
	for _, m := range all {
		wanted = append(wanted, told(m))
	}
	var calls sync.WaitGroup
	for range 8 {
		calls.Go(func() {
			for i, m := range all {
				if told(m) != wanted[i] {
					t.Errorf("another result for %d", i)
				}
			}
		})
	}
	calls.Wait()
}

// 14: the example.
func TestExample(t *testing.T) {
	b, errno := Put(api.Meta{})
	want(t, "the error", errno, api.OK)
	want(t, "the zero Meta", b, make([]byte, 1+2+2+2+1+1+4))
}
