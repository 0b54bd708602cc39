package image_test

import (
	"fmt"
	"math"
	"slices"
	"strings"
	"testing"

	"matryoshka/api"
	"matryoshka/disk"
	"matryoshka/image"
	"matryoshka/shots"
)

// 17.2: Meta has the counts for the sectors that the file has now, whoever gave them to it.
func TestCountsOfMeta(t *testing.T) {
	d, i := created(t, 1, 16)
	check := func(what string, size int) {
		t.Helper()
		m := i.Meta()
		want(t, what, m.Counts, countsOf(m, size))
		want(t, what+": the sectors", len(m.Counts), size)
	}
	check("a new image", 4)
	must(t, "Put", i.Put(0, big(1, 1)), i.Put(2, big(1, 2)), i.Put(3, big(1, 1)))
	check("with clusters", 8)
	want(t, "the counts", i.Meta().Counts, []int{1, 1, 0, 0, 2, 2, 1, 1})
	takeShot(t, i, "s")
	check("with a shot", 8)
	want(t, "the counts", i.Meta().Counts, []int{1, 1, 0, 0, 4, 4, 2, 2})
	must(t, "Zero", i.Zero(2))
	check("with a cluster less", 8)
	must(t, "Flush", i.Flush())
	size, _ := d.Size("f")
	check("flushed", size)
	must(t, "a write from outside", d.Write("f", 99, make([]byte, 16)))
	check("longer", 100)
	turnOff(t, d)
	check("without power", 100)
	d.Crash(nil)
	check("after a crash", size)
	must(t, "a cut", d.Cut("f", 7))
	check("shorter", 7)
	must(t, "a cut", d.Cut("f", 0))
	check("empty", 0)
	must(t, "the file is removed", d.Remove("f"))
	check("no file", 0)
}

// 17.2: the counts are those of the current state; the flushed one and its blob have none.
func TestCountsOfTheCurrentState(t *testing.T) {
	_, i := created(t, 0, 4)
	must(t, "Put, Flush, Clear", i.Put(0, c("a")), i.Flush(), i.Clear(0))
	want(t, "the counts", i.Meta().Counts, append([]int{1, 1}, make([]int, len(i.Meta().Counts)-2)...))
}

// invalidMetas are like m but for something that may not be, whatever m is.
func invalidMetas(m api.Meta) []api.Meta {
	var l []api.Meta
	with := func(turn func(x *api.Meta)) {
		x := m
		x.Shots, x.Maps = slices.Clone(m.Shots), slices.Clone(m.Maps)
		turn(&x)
		l = append(l, x)
	}
	for _, n := range farNumbers {
		with(func(x *api.Meta) { x.Size = n })
		with(func(x *api.Meta) { x.Cluster = n })
		with(func(x *api.Meta) { x.Shots = append(x.Shots, api.Shot{Name: "more", Size: n}) })
		with(func(x *api.Meta) {
			x.Maps = append(x.Maps, api.Bitmap{Name: "more", L: []api.Span{{From: n, To: n + 1}}})
		})
	}
	with(func(x *api.Meta) { x.Cluster, x.Size = 7, 0 })
	with(func(x *api.Meta) { x.Cluster, x.Size, x.T = 1, 3, api.Table{} })
	for _, name := range []string{"A", " ", "\x00", "0123456789abcdefg", strings.Repeat("a", 1<<16)} {
		with(func(x *api.Meta) { x.Back = name })
		with(func(x *api.Meta) { x.Shots = append(x.Shots, api.Shot{Name: name}) })
		with(func(x *api.Meta) { x.Maps = append(x.Maps, api.Bitmap{Name: name}) })
	}
	with(func(x *api.Meta) { x.Shots = append(x.Shots, api.Shot{}) })
	with(func(x *api.Meta) { x.Shots = append(x.Shots, api.Shot{Name: "t"}, api.Shot{Name: "t"}) })
	with(func(x *api.Meta) { x.Maps = append(x.Maps, api.Bitmap{}) })
	with(func(x *api.Meta) { x.Maps = append(x.Maps, api.Bitmap{Name: "t"}, api.Bitmap{Name: "t"}) })
	with(func(x *api.Meta) {
		for n := range 9 {
			x.Shots = append(x.Shots, api.Shot{Name: fmt.Sprint("shot", n)})
		}
	})
	with(func(x *api.Meta) {
		for n := range 9 {
			x.Maps = append(x.Maps, api.Bitmap{Name: fmt.Sprint("map", n)})
		}
	})
	for _, bad := range badTables(m.Cluster) {
		with(func(x *api.Meta) { x.T = bad })
		with(func(x *api.Meta) { x.Shots = append(x.Shots, api.Shot{Name: "more", Size: 64, T: bad}) })
	}
	with(func(x *api.Meta) {
		x.T = tableOf(append(make([]api.Entry, x.Size>>x.Cluster), api.Entry{Kind: api.EntryZero})...)
	})
	return l
}

// badTables are valid for no image.
func badTables(cluster int) []api.Table {
	l := []api.Table{{L: [][]api.Entry{nil}}, {L: make([][]api.Entry, 1<<16)}, {L: [][]api.Entry{make([]api.Entry, 8)}}, {L: [][]api.Entry{{{Kind: 1}}}}, {L: [][]api.Entry{9: {8: {}}}}}
	for _, e := range []api.Entry{
		{Kind: -1}, {Kind: 4}, {Kind: 1, Sum: 1}, {Kind: 2}, {Kind: 2, Start: 1, Count: 1 << cluster}, {Kind: 2, Start: 4, Count: 2 << cluster},
		{Kind: 2, Start: 65536, Count: 1 << cluster}, {Kind: 3, Start: 4, Count: 1 << cluster, Size: 16 << cluster}, {Kind: 3, Start: math.MaxInt, Count: math.MaxInt, Size: math.MaxInt}, {Kind: 0, Start: math.MinInt},
	} {
		l = append(l, tableOf(api.Entry{Kind: 1}, e))
	}
	return l
}

// 17.2: ErrArg for a meta that is not valid.
func TestTurnOfInvalidMetas(t *testing.T) {
	for cluster := range 3 {
		d, i := created(t, cluster, 16)
		must(t, "Put", i.Put(0, big(cluster, 1)), i.Put(2, big(cluster, 2)))
		takeShot(t, i, "s")
		addMap(t, i, "b", true)
		must(t, "Put", i.Put(1, big(cluster, 3)))
		for n, m := range append(invalidMetas(i.Meta()), invalidMetas(api.Meta{Cluster: cluster, Size: 16})...) {
			checkKeeps(t, fmt.Sprint("meta ", n), d, i, api.ErrArg, func() api.Errno { return i.Turn(m) })
		}
	}
}

// withEntries is a meta of an image with these entries, and with a shot that has others.
func withEntries(i *image.Image, own []api.Entry, shot []api.Entry) api.Meta {
	m := i.Meta()
	m.T = tableOf(own...)
	m.Shots = []api.Shot{{Name: "t", Size: m.Size, T: tableOf(shot...)}}
	return m
}

// tableau is an image with one entry in its own table alone, one in that of its shot alone, and one in both; of another
// one nothing but the flushed state and the index know.
func tableau(t *testing.T) (d *disk.Disk, i *image.Image, own, both, shot, lost api.Entry) {
	t.Helper()
	d, i = created(t, 1, 16)
	must(t, "Put", i.Put(0, small(1, 1)), i.Put(1, big(1, 2)), i.Put(2, small(1, 4)))
	shot, both, lost = entryAt(i, 0), entryAt(i, 1), entryAt(i, 2)
	must(t, "Flush, Clear", i.Flush(), i.Clear(2))
	takeShot(t, i, "s")
	must(t, "Put", i.Put(0, small(1, 3)))
	own = entryAt(i, 0)
	want(t, "kinds", []int{own.Kind, both.Kind, shot.Kind, lost.Kind}, []int{3, 2, 3, 3})
	return d, i, own, both, shot, lost
}

// 17.2: m may contain the entries that the current state contains, its own table or that of a shot, wherever m has them.
func TestTurnOfEntriesThatAreContained(t *testing.T) {
	_, _, own, both, shot, _ := tableau(t)
	zero := api.Entry{Kind: api.EntryZero}
	for _, l := range [][]api.Entry{nil, {zero}, {own}, {both}, {shot}, {shot, own, both, zero, {}, own, own, shot}, {shot, shot, shot}} {
		for _, s := range [][]api.Entry{nil, {own}, {both, zero}, {shot}, {own, shot, both, own}} {
			_, i, _, _, _, _ := tableau(t)
			m := withEntries(i, l, s)
			must(t, "Turn", i.Turn(m))
			m.Counts = i.Meta().Counts
			want(t, "the meta", i.Meta(), m)
			for k, e := range l {
				b, kind, errno := i.Own("", k)
				want(t, "Own", fmt.Sprintf("%x %d %d", b, kind, errno), fmt.Sprintf("%x %d %d", contentsIn(e, own, both, shot), e.Kind, api.OK))
			}
			for k, e := range s {
				b, kind, errno := i.Own("t", k)
				want(t, "Own", fmt.Sprintf("%x %d %d", b, kind, errno), fmt.Sprintf("%x %d %d", contentsIn(e, own, both, shot), e.Kind, api.OK))
			}
			_, _, errno := i.Own("s", 0)
			want(t, "the shot before", errno, api.ErrName)
		}
	}
}

// contentsIn are the contents of an entry of a tableau.
func contentsIn(e, own, both, shot api.Entry) []byte {
	switch e {
	case own:
		return small(1, 3)
	case both:
		return big(1, 2)
	case shot:
		return small(1, 1)
	}
	return make([]byte, 32)
}

// 17.2: ErrArg for an entry that the current state does not contain, be it in the table of m or in that of a shot of m.
func TestTurnOfEntriesThatAreNotContained(t *testing.T) {
	d, i, own, both, shot, lost := tableau(t)
	l := []api.Entry{
		lost, {Kind: 2, Start: 2, Count: 2}, {Kind: 3, Start: 4, Count: 1, Size: 16}, {Kind: 2, Start: 50000, Count: 2, Sum: 3},
		// These are like the entries that are contained, but for their Kind.
		{Kind: 2, Start: own.Start, Count: 2, Sum: own.Sum}, {Kind: 2, Start: shot.Start, Count: 2, Sum: shot.Sum}, {Kind: 3, Start: both.Start, Count: 1, Size: 16, Sum: both.Sum},
	}
	for _, e := range []api.Entry{own, both, shot} {
		for _, turn := range []func(e *api.Entry){
			func(e *api.Entry) { e.Start++ }, func(e *api.Entry) { e.Start-- }, func(e *api.Entry) { e.Sum++ }, func(e *api.Entry) { e.Sum ^= 1 << 31 }, func(e *api.Entry) { e.Start += 1000 },
		} {
			x := e
			turn(&x)
			l = append(l, x)
		}
	}
	for _, e := range []api.Entry{own, shot} {
		x, y := e, e
		x.Size--
		y.Size++
		l = append(l, x, y)
	}
	for n, e := range l {
		what := fmt.Sprintf("entry %d, %+v", n, e)
		for _, m := range []api.Meta{
			withEntries(i, []api.Entry{e}, nil), withEntries(i, nil, []api.Entry{e}), withEntries(i, []api.Entry{own, both, shot, e}, []api.Entry{own}),
			withEntries(i, []api.Entry{own, both, shot}, []api.Entry{own, both, shot, 7: e}),
		} {
			checkKeeps(t, what, d, i, api.ErrArg, func() api.Errno { return i.Turn(m) })
		}
	}
}

// 17.2: an entry that the current state has lost is contained no more, also if it lost it by Turn, and though the file
// still holds its contents.
func TestTurnBack(t *testing.T) {
	_, i := created(t, 0, 8)
	must(t, "Put", i.Put(0, c("a")), i.Put(1, c("b")))
	before := i.Meta()
	takeShot(t, i, "s")
	with := i.Meta()
	must(t, "Put", i.Put(0, c("d")), i.Turn(before), i.Put(0, c("e")))
	want(t, "without a shot", i.Turn(with), api.ErrArg)
	want(t, "without a shot", i.Turn(before), api.ErrArg)
	takeShot(t, i, "s")
	dropped, errno := shots.Drop(i.Meta(), "s")
	must(t, "Clear, Turn", errno, i.Clear(0), i.Clear(1), i.Turn(i.Meta()))
	want(t, "from the shot", i.Turn(dropped), api.OK)
}

// 17.2: the Counts of m do not matter.
func TestTurnOfAnyCounts(t *testing.T) {
	for _, counts := range [][]int{nil, {}, {-1}, {1, 1, 1 << 16}, {math.MinInt, math.MaxInt}, make([]int, 1<<16+1), make([]int, 1<<20), {5, 5, 5, 5, 5, 5}} {
		d, i := created(t, 0, 8)
		must(t, "Put", i.Put(0, c("a")))
		m := i.Meta()
		m.Counts, m.Back = counts, "base"
		must(t, "Turn", i.Turn(m))
		m.Counts = []int{1, 1, 0, 0, 1}
		want(t, "the meta", i.Meta(), m)
		must(t, "Put, Flush", i.Put(1, c("b")), i.Flush())
		want(t, "where it stands", starts(i, 2), []int{4, 5})
		want(t, "what is stored", lasting(opened(t, d)), lasting(i))
	}
}

// 17.2: all of m becomes that of the current state, whatever it was.
func TestTurnToAnything(t *testing.T) {
	for _, m := range []api.Meta{
		{}, {Cluster: 6, Size: 128, Back: "f"}, {Cluster: 2, Size: 4096, T: tableOf([]api.Entry{1023: {Kind: 1}}...)},
		{Size: 4, Maps: []api.Bitmap{{Name: "a", L: []api.Span{{From: 0, To: 4096}}}, {Name: "b", On: true}}, Shots: []api.Shot{{Name: "s", Size: 7, T: tableOf(api.Entry{Kind: 1})}}},
	} {
		d, i := created(t, 0, 8)
		must(t, "Put", i.Put(0, c("a")), i.Put(7, c("b")), i.Turn(m))
		m.Counts = []int{1, 1, 0, 0, 0, 0}
		want(t, "the meta", i.Meta(), m)
		want(t, "Changed", i.Changed(), true)
		for k := range m.Size >> m.Cluster {
			b, _, errno := i.Own("", k)
			want(t, "Own", fmt.Sprint(b, errno), fmt.Sprint(make([]byte, 16<<m.Cluster), api.OK))
		}
		want(t, "Put of a cluster of another length", i.Put(0, make([]byte, 17)), refusedPut(m))
		must(t, "Flush", i.Flush())
		want(t, "what is stored", lasting(opened(t, d)), lasting(i))
	}
}

// refusedPut is why 17 bytes are put into cluster 0 in vain.
func refusedPut(m api.Meta) api.Errno {
	if m.Size == 0 {
		return api.ErrRange
	}
	return api.ErrArg
}

// 17.2: packed contents have the length of their cluster. In an image whose clusters have become longer they are none.
func TestTurnToLongerClusters(t *testing.T) {
	_, i := created(t, 2, 64)
	must(t, "Put", i.Put(0, small(2, 1)), i.Put(1, small(2, 2)))
	must(t, "Own", ownErrno(i, "", 0), ownErrno(i, "", 1))
	m := i.Meta()
	m.Cluster = 3
	must(t, "Turn", i.Turn(m))
	want(t, "Own", ownErrno(i, "", 0), api.ErrSum)
	must(t, "Put", i.Put(0, small(3, 1)), ownErrno(i, "", 0))
	want(t, "the others", ownErrno(i, "", 1), api.ErrSum)
	m = i.Meta()
	m.Cluster, m.T = 2, tableOf(api.Entry{}, entryAt(i, 1))
	must(t, "Turn", i.Turn(m), ownErrno(i, "", 1))
	want(t, "cluster 1", fmt.Sprintf("%x", contentsOf(i, "", 1)), fmt.Sprintf("%x", small(2, 2)))
}

// ownErrno is the error of Own.
func ownErrno(i *image.Image, shot string, k int) api.Errno {
	_, _, errno := i.Own(shot, k)
	return errno
}

// contentsOf is what Own returns.
func contentsOf(i *image.Image, shot string, k int) []byte {
	b, _, _ := i.Own(shot, k)
	return b
}

// 17.2: Changed, after each method that succeeds, even if nothing is other than before, and after Flush.
func TestChanged(t *testing.T) {
	d, i := created(t, 0, 8)
	must(t, "Put, Flush", i.Put(1, c("x")), i.Flush())
	for n, call := range []func() api.Errno{
		func() api.Errno { return i.Put(0, c("y")) }, func() api.Errno { return i.Put(0, c("y")) }, func() api.Errno { return i.Put(2, c("x")) },
		func() api.Errno { return i.Put(3, make([]byte, 16)) }, func() api.Errno { return i.Put(3, make([]byte, 16)) },
		func() api.Errno { return i.Zero(4) }, func() api.Errno { return i.Zero(4) }, func() api.Errno { return i.Clear(4) }, func() api.Errno { return i.Clear(4) },
		func() api.Errno { return i.Resize(8) }, func() api.Errno { return i.Resize(6) }, func() api.Errno { return i.Resize(9) }, func() api.Errno { return i.Turn(i.Meta()) },
	} {
		want(t, "Changed", i.Changed(), false)
		must(t, "the call", call())
		want(t, fmt.Sprint("Changed behind call ", n), i.Changed(), true)
		i.Own("", 0)
		i.Shared()
		want(t, fmt.Sprint("Changed behind Own ", n), i.Changed(), true)
		want(t, "opened", opened(t, d).Changed(), false)
		must(t, "Flush", i.Flush())
	}
}

// 17.2: Changed, after each method that fails.
func TestChangedIsAsItWas(t *testing.T) {
	d, i := created(t, 0, 8)
	must(t, "Put, Flush", i.Put(1, c("x")), i.Flush())
	failing := func() {
		for n, errno := range []api.Errno{
			i.Put(8, c("y")), i.Put(-1, c("y")), i.Put(0, nil), i.Zero(8), i.Clear(-1), i.Resize(-1), i.Resize(4097), i.Turn(api.Meta{Size: -1}), ownErrno(i, "s", 0), ownErrno(i, "", 8),
		} {
			want(t, fmt.Sprint("whether call ", n, " fails"), errno != api.OK, true)
		}
	}
	failing()
	want(t, "Changed", i.Changed(), false)
	must(t, "Clear", i.Clear(1))
	failing()
	want(t, "Changed", i.Changed(), true)
	turnOff(t, d)
	want(t, "Flush", i.Flush(), api.ErrDead)
	want(t, "Changed behind a Flush that failed", i.Changed(), true)
	d.Crash(nil)
	must(t, "Flush", i.Flush())
	want(t, "Changed", i.Changed(), false)
	turnOff(t, d)
	want(t, "Put, Flush", []api.Errno{i.Put(0, c("z")), i.Flush()}, []api.Errno{api.ErrDead, api.ErrDead})
	want(t, "Changed", i.Changed(), false)
	must(t, "Zero", i.Zero(3))
	want(t, "Changed", i.Changed(), true)
}
