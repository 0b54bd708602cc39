package chain

import (
	"bytes"
	"fmt"
	"testing"

	"matryoshka/api"
	"matryoshka/disk"
	"matryoshka/image"
	"matryoshka/shots"
)

// What package image offers to the functions of this layer, and of layers 20 and 21, each of which changes an image as a
// whole or not at all (17, 'The following holds for all methods').

func want[T any](t *testing.T, what string, got, wanted T) {
	t.Helper()
	if g, w := fmt.Sprintf("%+v", got), fmt.Sprintf("%+v", wanted); g != w {
		t.Fatalf("%s: %s, want %s", what, g, w)
	}
}

func must(t *testing.T, what string, l ...api.Errno) {
	t.Helper()
	for _, errno := range l {
		want(t, what, errno, api.OK)
	}
}

// created is a new image, f, of clusters of one sector, which has a backing image.
func created(t *testing.T, size int) (*disk.Disk, *image.Image) {
	t.Helper()
	d, errno := disk.New(10000)
	must(t, "disk.New", errno)
	i, errno := image.Create(d, "f", 0, size, "base")
	must(t, "Create", errno)
	return d, i
}

// c is a cluster, another one for each n.
func c(n int) []byte {
	return bytes.Repeat([]byte{byte(n), byte(n >> 8), 1, 2}, 4)
}

// starts are where the entries of the first n clusters start.
func starts(i *image.Image, n int) []int {
	m := i.Meta()
	var l []int
	for k := range n {
		if k/8 >= len(m.T.L) || len(m.T.L[k/8]) == 0 {
			l = append(l, 0)
			continue
		}
		l = append(l, m.T.L[k/8][k%8].Start)
	}
	return l
}

// state tells what an image shows. (Its Counts hang on how long its file is too.)
func state(i *image.Image) string {
	m := i.Meta()
	m.Counts = nil
	told := fmt.Sprintf("%+v %v %d", m, i.Changed(), i.Shared())
	for _, shot := range append([]api.Shot{{Size: m.Size}}, m.Shots...) {
		for k := range shot.Size >> m.Cluster {
			b, kind, errno := i.Own(shot.Name, k)
			told += fmt.Sprintf(" %x %d %d", b, kind, errno)
		}
	}
	return told
}

// changeAll changes an image by every call that changes one.
func changeAll(t *testing.T, i *image.Image) {
	t.Helper()
	must(t, "Put", i.Resize(11), i.Put(0, c(90)), i.Put(1, c(91)), i.Put(2, c(92)), i.Zero(3), i.Clear(4), i.Put(5, c(90)))
	m, errno := shots.Add(i.Meta(), "new")
	must(t, "Turn", errno, i.Turn(m), i.Put(0, c(93)), i.Put(6, c(94)), i.Resize(4), i.Resize(12), i.Put(11, c(95)))
	m, errno = shots.Drop(i.Meta(), "old")
	must(t, "Turn", errno, i.Turn(m), i.Put(7, c(96)), i.Put(8, c(97)))
}

// rich is an image with a shot, old, and a bitmap, which has been flushed and changed since.
func rich(t *testing.T) (*disk.Disk, *image.Image) {
	t.Helper()
	d, i := created(t, 10)
	m := i.Meta()
	m.Maps = []api.Bitmap{{Name: "m", On: true}}
	must(t, "Put", i.Turn(m), i.Put(0, c(1)), i.Put(1, c(2)), i.Put(2, c(1)), i.Put(9, c(3)))
	m, errno := shots.Add(i.Meta(), "old")
	must(t, "Flush", errno, i.Turn(m), i.Flush(), i.Put(1, c(4)), i.Put(3, c(5)), i.Put(4, c(6)))
	return d, i
}

// A call that ends with an error leaves the image as it was, whatever was changed.
func TestACallIsUndone(t *testing.T) {
	for _, flushed := range []bool{false, true} {
		d, i := rich(t)
		if flushed {
			must(t, "Flush", i.Flush())
		}
		before := state(i)
		for range 5 {
			end := i.Begin()
			changeAll(t, i)
			end(api.ErrSpace)
			want(t, "undone", state(i), before)
			end(api.OK)
			end(api.ErrArg)
			want(t, "ended once more", state(i), before)
		}
		must(t, "Put, Flush", i.Zero(0), i.Flush())
		d.Crash(nil)
		j, errno := image.Open(d, "f")
		must(t, "Open", errno)
		want(t, "what is stored", state(j), state(i))
	}
}

// A call that ends without an error leaves what was changed.
func TestACallIsKept(t *testing.T) {
	_, i := rich(t)
	_, j := rich(t)
	end := i.Begin()
	changeAll(t, i)
	changeAll(t, j)
	changed := state(i)
	end(api.OK)
	end(api.ErrArg)
	want(t, "the state", state(i), changed)
	want(t, "the clusters", fmt.Sprint(i.Meta().Size, i.Meta().Maps, i.Shared()), fmt.Sprint(j.Meta().Size, j.Meta().Maps, j.Shared()))
}

// Sectors that are released during a call are not used again before it ends, and then they are; be it undone or not.
func TestReleasedSectorsAreHeld(t *testing.T) {
	for _, errno := range []api.Errno{api.OK, api.ErrSpace} {
		_, i := created(t, 8)
		must(t, "Put", i.Put(0, c(1)), i.Put(1, c(2)))
		end := i.Begin()
		must(t, "Put", i.Put(0, c(3)), i.Put(0, c(4)), i.Clear(0), i.Put(1, c(5)), i.Resize(1), i.Resize(8), i.Put(0, c(6)))
		want(t, "during the call", starts(i, 8), []int{9, 0, 0, 0, 0, 0, 0, 0})
		end(errno)
		must(t, "Put", i.Put(2, c(7)), i.Put(3, c(8)), i.Put(4, c(9)), i.Put(5, c(10)), i.Put(6, c(11)), i.Put(7, c(12)))
		if errno == api.OK {
			want(t, "behind the call", starts(i, 8), []int{9, 0, 4, 5, 6, 7, 8, 10})
		} else {
			want(t, "behind the call", starts(i, 8), []int{4, 5, 6, 7, 8, 9, 10, 11})
		}
	}
}

// What is released by Turn, or by a Flush, which also releases the blob before, is held too; and Flush writes to none of it.
func TestReleasedStatesAreHeld(t *testing.T) {
	_, i := created(t, 8)
	must(t, "Put, Flush", i.Put(0, c(1)), i.Flush())
	// Sectors 2 and 3 were those of the blob before, and are free; 4 and those behind it are in use up to the end.
	end := i.Begin()
	must(t, "Turn, Flush", i.Turn(api.Meta{Size: 8}), i.Flush())
	sectors := len(i.Meta().Counts)
	must(t, "Put, Flush", i.Put(0, c(2)), i.Flush())
	longer := len(i.Meta().Counts)
	want(t, "whether the blob is behind all that was released", longer > sectors+10, true)
	must(t, "Put", i.Put(1, c(3)))
	want(t, "during the call", starts(i, 2), []int{sectors, longer})
	end(api.OK)
	must(t, "Put", i.Put(2, c(4)), i.Put(3, c(5)), i.Put(4, c(6)), i.Put(5, c(7)))
	want(t, "behind the call", starts(i, 6)[2:], []int{2, 3, 4, 5})
}

// A call that is undone makes the index forget what was added, and know again what went for it.
func TestTheIndexIsUndone(t *testing.T) {
	_, i := created(t, 200)
	for n := range 64 {
		must(t, "Put", i.Put(n, c(n)))
	}
	end := i.Begin()
	for n := range 64 {
		must(t, "Put", i.Put(100+n, c(1000+n)))
	}
	end(api.ErrSpace)
	for n := range 64 {
		must(t, "Put", i.Put(100+n, c(n)))
	}
	want(t, "those before", i.Shared(), 64)
	// The sectors of the call hold its contents still, and are free. They are not known: each is stored in the first one.
	must(t, "Put", i.Put(180, c(1001)), i.Put(181, c(1000)))
	want(t, "those of the call", starts(i, 182)[180:], []int{68, 69})

	_, i = created(t, 200)
	end = i.Begin()
	must(t, "Put", i.Put(0, c(1)), i.Put(1, c(2)))
	end(api.OK)
	must(t, "Put", i.Put(2, c(1)), i.Put(3, c(2)))
	want(t, "those of a call that was kept", i.Shared(), 2)
}

// Of calls within a call each is undone for itself, and sectors are held until the first one ends.
func TestCallsWithinACall(t *testing.T) {
	for _, errno := range []api.Errno{api.OK, api.ErrSpace} {
		_, i := created(t, 8)
		must(t, "Put", i.Put(0, c(1)))
		before := state(i)
		end := i.Begin()
		must(t, "Put", i.Put(0, c(2)), i.Put(1, c(3)))
		between := state(i)
		inner := i.Begin()
		must(t, "Put", i.Put(0, c(4)), i.Put(1, c(5)))
		want(t, "within both", starts(i, 2), []int{7, 8})
		inner(api.ErrSpace)
		want(t, "the inner one is undone", state(i), between)
		inner = i.Begin()
		must(t, "Put", i.Put(0, c(4)))
		inner(api.OK)
		must(t, "Put", i.Put(2, c(6)))
		want(t, "within the outer one", starts(i, 3), []int{9, 6, 10})
		end(errno)
		if errno != api.OK {
			want(t, "all is undone", state(i), before)
			continue
		}
		must(t, "Put", i.Put(3, c(7)), i.Put(4, c(8)), i.Put(5, c(9)))
		want(t, "behind both", starts(i, 6), []int{9, 6, 10, 4, 5, 7})
	}
}

// Behind a call that flushed the image and was undone, the image is changed: what is stored is another state.
func TestUndoneBehindAFlush(t *testing.T) {
	for _, changed := range []bool{false, true} {
		d, i := created(t, 8)
		must(t, "Put, Flush", i.Put(0, c(1)), i.Flush())
		if changed {
			must(t, "Put", i.Put(1, c(2)))
		}
		before := state(i)
		end := i.Begin()
		must(t, "Put, Flush", i.Put(0, c(3)), i.Flush(), i.Put(0, c(4)), i.Put(2, c(5)))
		end(api.ErrSpace)
		want(t, "Changed", i.Changed(), true)
		must(t, "Flush", i.Flush())
		j, errno := image.Open(d, "f")
		must(t, "Open", errno)
		want(t, "what is stored", state(j), state(i))
		if !changed {
			want(t, "the state before", state(j), before)
		}
	}
}

// A call that is undone leaves the file as long as it was, so that it takes no room from others; unless the state that is
// stored in it needs more.
func TestAnUndoneCallTakesNoRoom(t *testing.T) {
	d, i := rich(t)
	before := whole(i)
	end := i.Begin()
	changeAll(t, i)
	inner := i.Begin()
	must(t, "Put", i.Put(0, c(200)), i.Put(1, c(201)))
	inner(api.ErrSpace)
	end(api.ErrSpace)
	want(t, "undone", whole(i), before)

	end = i.Begin()
	must(t, "Put, Flush", i.Put(0, c(202)), i.Put(1, c(203)), i.Flush())
	flushed := state(opened(t, d, "f"))
	must(t, "Put", i.Put(2, c(204)), i.Put(3, c(205)))
	end(api.ErrSpace)
	want(t, "what is stored", state(opened(t, d, "f")), flushed)
	must(t, "Flush", i.Flush())
	want(t, "what is stored", state(opened(t, d, "f")), state(i))

	end = i.Begin()
	must(t, "Put", i.Put(0, c(206)))
	d.Power(1)
	want(t, "Put", i.Put(1, c(207)), api.ErrDead)
	end(api.ErrDead)
	d.Crash([]bool{true})
	want(t, "what is stored", state(opened(t, d, "f")), state(i))

	must(t, "Remove", d.Remove("f"))
	before = whole(i)
	end = i.Begin()
	must(t, "Zero", i.Zero(0))
	end(api.ErrName)
	want(t, "undone", whole(i), before)
}

// A nil image has calls that change nothing.
func TestACallOfNoImage(t *testing.T) {
	var i *image.Image
	end := i.Begin()
	end(api.OK)
	end(api.ErrArg)
}
