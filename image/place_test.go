package image_test

import (
	"fmt"
	"slices"
	"testing"

	"matryoshka/api"
	"matryoshka/disk"
	"matryoshka/file"
	"matryoshka/image"
	"matryoshka/meta"
	"matryoshka/shots"
)

// 17.3: new entries stand in the first sectors that are free; those that an entry was released from are free at once,
// unless the flushed state has them.
func TestPlaces(t *testing.T) {
	_, i := created(t, 0, 8)
	must(t, "Put", i.Put(0, c("a")), i.Put(1, c("b")), i.Put(2, c("d")), i.Put(3, c("e")))
	want(t, "behind the blob", starts(i, 4), []int{4, 5, 6, 7})
	must(t, "Put", i.Put(1, c("f")), i.Put(4, c("g")))
	want(t, "in the place of one that was replaced", starts(i, 5), []int{4, 8, 6, 7, 5})
	must(t, "Zero, Clear", i.Zero(0), i.Clear(2), i.Put(5, c("h")), i.Put(6, c("i")), i.Put(7, c("j")))
	want(t, "in the place of zeros, and of nothing", starts(i, 8), []int{0, 8, 0, 7, 5, 4, 6, 9})
	must(t, "Resize", i.Resize(4), i.Put(0, c("k")), i.Put(2, c("l")))
	want(t, "in the place of what was cut off", starts(i, 4), []int{4, 8, 5, 7})
}

// 17.3: sectors that two clusters share are in use until both are gone.
func TestPlacesOfSharedEntries(t *testing.T) {
	_, i := created(t, 0, 8)
	must(t, "Put", i.Put(0, c("a")), i.Put(1, c("a")), i.Put(2, c("a")), i.Put(0, c("b")), i.Clear(1), i.Put(3, c("d")))
	want(t, "one of three is left", starts(i, 4), []int{5, 0, 4, 6})
	must(t, "Zero", i.Zero(2), i.Put(4, c("e")))
	want(t, "none is left", starts(i, 5), []int{5, 0, 0, 6, 4})
	must(t, "Put", i.Put(4, c("e")), i.Put(0, c("b")), i.Put(1, c("f")))
	want(t, "put again", starts(i, 5), []int{5, 7, 0, 6, 4})
}

// 17.3: behind a Flush, what the state before had alone is free, its blob too; what the new one has is not.
func TestPlacesBehindAFlush(t *testing.T) {
	_, i := created(t, 0, 16)
	must(t, "Put, Flush", i.Put(0, c("a")), i.Put(1, c("b")), i.Flush())
	used := i.Meta().Counts
	must(t, "Put", i.Put(0, c("d")), i.Put(1, c("e")), i.Put(2, c("f")))
	want(t, "the blob of two sectors before, and behind the new one", starts(i, 3), []int{2, 3, len(used)})
	must(t, "Clear, Put", i.Clear(0), i.Put(3, c("g")))
	want(t, "what the current state has released", starts(i, 4), []int{0, 3, len(used), 2})
	must(t, "Flush, Put", i.Flush(), i.Put(4, c("h")), i.Put(5, c("i")), i.Put(6, c("j")))
	want(t, "what the state before had", starts(i, 7)[4:6], []int{4, 5})
	want(t, "its blob", starts(i, 7)[6], 6)
}

// 17.3: what a shot has is in use until it is dropped.
func TestPlacesBehindAShot(t *testing.T) {
	_, i := created(t, 0, 8)
	must(t, "Put", i.Put(0, c("a")), i.Put(1, c("b")))
	takeShot(t, i, "s")
	must(t, "Put", i.Put(0, c("d")), i.Clear(1), i.Put(2, c("e")))
	want(t, "with the shot", starts(i, 3), []int{6, 0, 7})
	takeShot(t, i, "t")
	m, errno := shots.Drop(i.Meta(), "s")
	must(t, "Turn", errno, i.Turn(m), i.Put(0, c("f")), i.Put(1, c("g")), i.Put(2, c("h")))
	want(t, "without the first one", starts(i, 3), []int{4, 5, 8})
	must(t, "Flush", i.Flush())
	m, errno = shots.Drop(i.Meta(), "t")
	must(t, "Turn", errno, i.Turn(m), i.Put(0, c("i")))
	want(t, "while the flushed state has the other", starts(i, 1)[0] != 6, true)
	must(t, "Flush, Put", i.Flush(), i.Put(1, c("j")), i.Put(2, c("k")))
	want(t, "without the other", starts(i, 3)[1] <= 6, true)
}

// 17.3: as many sectors as are needed stand one behind the other; a gap that is too small is left to fewer.
func TestPlacesInGaps(t *testing.T) {
	_, i := created(t, 2, 64)
	must(t, "Put", i.Put(0, small(2, 1)), i.Put(1, big(2, 2)), i.Put(2, small(2, 3)), i.Put(3, small(2, 4)))
	want(t, "one behind the other", starts(i, 4), []int{4, 5, 9, 10})
	must(t, "Clear", i.Clear(0), i.Clear(2), i.Put(4, big(2, 5)), i.Put(5, small(2, 6)), i.Put(6, small(2, 7)), i.Put(7, small(2, 8)))
	want(t, "gaps", starts(i, 8), []int{0, 5, 0, 10, 11, 4, 9, 15})
	must(t, "Clear", i.Clear(1), i.Clear(6), i.Put(8, small(2, 9)), i.Put(9, big(2, 10)))
	want(t, "a gap of five", starts(i, 10)[8:], []int{5, 6})
}

// gapped is an image of clusters of 64 sectors in a file that is as long as it may be. Between its entries, and ahead of
// its blob, there are 63 free sectors each, and so many at its end.
func gapped(t *testing.T, free int) (*disk.Disk, *image.Image) {
	t.Helper()
	last := api.MaxFile - free - 64
	layout := func(first int) api.Meta {
		var entries []api.Entry
		for n := range 516 {
			entries = append(entries, api.Entry{Kind: api.EntryRaw, Start: min(first+n*127, last), Count: 64})
		}
		m := api.Meta{Cluster: 6, Size: 4096, T: tableOf(entries[:60]...)}
		for chunk := range slices.Chunk(entries[60:], 64) {
			m.Shots = append(m.Shots, api.Shot{Name: fmt.Sprint("s", len(m.Shots)), Size: 4096, T: tableOf(chunk...)})
		}
		return m
	}
	// Where entries start changes nothing of the length of a blob.
	blob, errno := meta.Put(layout(1000))
	must(t, "meta.Put", errno)
	d := laid(t, layout(2+63+(len(blob)+15)/16+63), api.MaxFile, 2+63, 1)
	return d, opened(t, d)
}

// 17.3: ErrSpace, if there is no place in the file, whatever room the disk has.
func TestNoPlaceInTheFile(t *testing.T) {
	for _, free := range []int{0, 1, 62, 63, 64, 65, 127} {
		d, i := gapped(t, free)
		what := fmt.Sprint(free, " free sectors at the end")
		if free < 64 {
			keepsPut(t, what, d, i, 63, big(6, 1))
		} else {
			checkPut(t, what, i, 63, big(6, 1), raw(api.MaxFile-free, big(6, 1)))
			keepsPut(t, what+", once more", d, i, 62, big(6, 2))
		}
		checkPut(t, what+", packed", i, 61, small(6, 3), packed(2, small(6, 3)))
		checkPut(t, what+", zeros", i, 60, make([]byte, 1024), api.Entry{Kind: api.EntryZero})
	}
}

// keepsPut is that Put returns ErrSpace, and that nothing is changed by it.
func keepsPut(t *testing.T, what string, d *disk.Disk, i *image.Image, k int, b []byte) {
	t.Helper()
	checkKeeps(t, what, d, i, api.ErrSpace, func() api.Errno { return i.Put(k, b) })
}

// 17.3: ErrSpace, if the disk has no room; what fits in a gap, or needs no sectors, needs no room.
func TestNoRoomOnTheDisk(t *testing.T) {
	d := diskOf(t, 16)
	i, errno := image.Create(d, "f", 1, 32, "")
	must(t, "Create", errno)
	must(t, "Put", d.Create("g"), d.Write("g", 0, make([]byte, 32)), i.Put(0, big(1, 0)), i.Put(1, small(1, 1)), i.Put(2, big(1, 2)), i.Put(3, big(1, 3)))
	want(t, "where they stand", starts(i, 4), []int{4, 6, 7, 9})
	want(t, "Used", d.Used(), 13)
	must(t, "Put", i.Put(4, big(1, 4)))
	keepsPut(t, "two sectors", d, i, 5, big(1, 5))
	must(t, "Put", i.Put(5, small(1, 6)))
	keepsPut(t, "one sector", d, i, 6, small(1, 7))
	keepsPut(t, "two sectors", d, i, 0, big(1, 5))
	must(t, "what needs no sectors", i.Put(6, make([]byte, 32)), i.Put(7, big(1, 2)), i.Zero(8))
	must(t, "Clear", i.Clear(1))
	keepsPut(t, "a gap of one", d, i, 6, big(1, 5))
	must(t, "Put", i.Put(6, small(1, 7)))
	want(t, "in the gap", starts(i, 7)[6], 6)
	keepsPut(t, "no gap", d, i, 9, small(1, 8))
	must(t, "a file goes", d.Remove("g"), i.Put(9, big(1, 5)))
	keepsPut(t, "no room again", d, i, 10, big(1, 9))
}

// 17.3: behind a Put without room the index knows what it knew before: nothing was added, and nothing went.
func TestNoRoomChangesNoIndex(t *testing.T) {
	d := diskOf(t, 4+64)
	i, errno := image.Create(d, "f", 0, 400, "")
	must(t, "Create", errno)
	for n := range 64 {
		must(t, "Put", i.Put(n, big(0, n)))
	}
	for n := range 200 {
		keepsPut(t, "no room", d, i, 300, big(0, 100+n))
	}
	for n := range 64 {
		checkPut(t, "known", i, 100+n, big(0, n), raw(4+n, big(0, n)))
	}
	// Its sector is free again, and now it is not known.
	must(t, "Clear", i.Clear(0), i.Clear(100))
	checkPut(t, "afresh", i, 0, big(0, 100), raw(4, big(0, 100)))
	want(t, "whether another one is known", i.Put(200, big(0, 101)), api.ErrSpace)
}

// 17.3: the other errors of the disk, behind ErrSpace.
func TestPutWithoutAFile(t *testing.T) {
	d, i := created(t, 0, 8)
	must(t, "Put, Flush, Remove", i.Put(0, c("a")), i.Flush(), d.Remove("f"))
	for _, k := range []int{0, 1} {
		checkKeeps(t, "no file", d, i, api.ErrName, func() api.Errno { return i.Put(k, c("b")) })
		checkKeeps(t, "no file, and known", d, i, api.ErrName, func() api.Errno { return i.Put(k, c("a")) })
	}
	want(t, "errors that come first", []api.Errno{i.Put(8, c("b")), i.Put(0, nil)}, []api.Errno{api.ErrRange, api.ErrArg})
	must(t, "what needs no file", i.Put(1, make([]byte, 16)), i.Zero(2), i.Clear(0), i.Resize(6))

	d, i = gapped(t, 3)
	must(t, "Remove", d.Remove("f"))
	want(t, "no place, and no file", i.Put(63, big(6, 1)), api.ErrSpace)
	want(t, "a place, and no file", i.Put(63, small(6, 1)), api.ErrName)
}

// 17, 17.3: no call writes to sectors that the current state, a shot of it, the flushed state or its blob uses.
func TestNothingInUseIsWrittenTo(t *testing.T) {
	d, i := created(t, 1, 40)
	for n := range 400 {
		before, used := bytesOf(t, d), inUse(t, d, i)
		switch {
		case n%23 == 22:
			must(t, "Flush", i.Flush())
		case n%11 == 5 && len(i.Meta().Shots) < 4:
			takeShot(t, i, fmt.Sprint("s", n))
		case n%17 == 16:
			m, errno := shots.Drop(i.Meta(), i.Meta().Shots[0].Name)
			must(t, "Turn", errno, i.Turn(m))
		case n%5 == 4:
			must(t, "Clear", i.Clear(n*7%20))
		case n%3 == 0:
			must(t, "Put", i.Put(n*13%20, small(1, n%31)))
		default:
			must(t, "Put", i.Put(n*13%20, big(1, n%37)))
		}
		after := bytesOf(t, d)
		for _, sector := range used {
			want(t, fmt.Sprintf("call %d, sector %d", n, sector), after[sector*16:sector*16+16], before[sector*16:sector*16+16])
		}
	}
}

// inUse are the sectors, but for the slots, that the states of an image use.
func inUse(t *testing.T, d *disk.Disk, i *image.Image) []int {
	t.Helper()
	flushed, located, errno := file.Load(d, "f")
	must(t, "file.Load", errno)
	var l []int
	for n := range (located.Count + 15) / 16 {
		l = append(l, located.Start+n)
	}
	for _, e := range append(entriesOf(flushed), entriesOf(i.Meta())...) {
		for n := range e.Count {
			l = append(l, e.Start+n)
		}
	}
	return l
}
