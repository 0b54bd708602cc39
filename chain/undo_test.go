package chain

import (
	"fmt"
	"math/rand"
	"strings"
	"testing"

	"matryoshka/api"
	"matryoshka/disk"
	"matryoshka/image"
)

// leave leaves a disk of chainOf with room for n more sectors.
func leave(t *testing.T, d *disk.Disk, n int) {
	t.Helper()
	for k := 0; d.Used() < diskRoom-n; k++ {
		name := fmt.Sprint("fill", k)
		must(t, "disk.Create", d.Create(name))
		must(t, "disk.Write", d.Write(name, 0, make([]byte, 16*min(diskRoom-n-d.Used(), 60000))))
	}
	want(t, "the room that is left", diskRoom-d.Used(), n)
}

// full is a chain whose first image has shots, bitmaps and a state that has been flushed and is another one now. It has
// 16 sectors, of which those from 8 on are shown by the next one.
func full(t *testing.T, cluster int) (*disk.Disk, []*image.Image) {
	t.Helper()
	d, l := chainOf(t, plan{cluster, "abcdefgh--------"}, plan{0, "ABCDEFGHIJKLMNOP"})
	addMap(t, l[0], "on", true)
	addMap(t, l[0], "off", false)
	takeShot(t, l[0], "s")
	must(t, "Flush", l[0].Flush())
	fill(t, l[0], "stuv"+strings.Repeat(".", 4)+"--------")
	must(t, "Zero", l[1].Zero(0))
	return d, l
}

// undone is that a call returns this error, and that the images, the index of the first one, and all that its states use
// are as they were.
func undone(t *testing.T, what string, d *disk.Disk, l []*image.Image, wanted api.Errno, call func() api.Errno) {
	t.Helper()
	used, room := usedBytes(t, d, "a", l[0]), d.Used()
	refused(t, what, l, wanted, call)
	want(t, what+": the sectors in use", usedBytes(t, d, "a", l[0]), used)
	want(t, what+": the room", d.Used(), room)
}

// 18.3: there is room for some of the clusters, but not for all: nothing is written.
func TestWriteWithoutRoom(t *testing.T) {
	for _, flushed := range []bool{false, true} {
		for room := range 12 {
			d, l := full(t, 0)
			if flushed {
				must(t, "Flush", l[0].Flush())
			}
			// Within the file is some room too.
			size, _ := d.Size("a")
			within := size - len(usedBytes(t, d, "a", l[0]))
			leave(t, d, room)
			text := "0123456789!$%&/("
			n := within + room
			if n > 15 {
				continue
			}
			undone(t, fmt.Sprint("one sector too many, room for ", n), d, l, api.ErrSpace, func() api.Errno {
				return Write(l, 0, sec(text[:n+1]))
			})
			before := shown(t, l, "")
			must(t, "Write", Write(l, 0, sec(text[:n])))
			want(t, "all", shown(t, l, ""), text[:n]+before[n:])
			want(t, "Changed", l[0].Changed(), true)
		}
	}
}

// 18.3: the power fails at any of the writes: the state is what it was, in memory and, behind a crash, on the disk.
func TestWriteWhileThePowerFails(t *testing.T) {
	for n := 1; n <= 8; n++ {
		for _, picks := range [][]bool{nil, {true}, {false, true}, {true, true, true, true, true, true, true, true}} {
			d, l := full(t, 1)
			changed := opened(t, d, "a")
			flushed := state(changed)
			now, shared := l[0].Meta(), l[0].Shared()
			now.Counts = nil
			d.Power(n)
			want(t, "Write", Write(l, 1, sec("0123456789!$")), api.ErrDead)
			m := l[0].Meta()
			m.Counts = nil
			want(t, "the meta", m, now)
			want(t, "Shared", l[0].Shared(), shared)
			want(t, "Changed", l[0].Changed(), true)
			d.Crash(picks)
			want(t, "what was flushed", state(opened(t, d, "a")), flushed)
		}
	}
}

// 18.3: the power fails, and what was there before is there still if it was written down.
func TestFlushedStateOutlivesAWrite(t *testing.T) {
	r := rand.New(rand.NewSource(2))
	for n := 1; n <= 18; n++ {
		for range 10 {
			d, l := full(t, 1)
			must(t, "Flush", l[0].Flush())
			before, all := state(l[0]), shown(t, l, "")
			d.Power(n)
			// One cluster of two sectors is written by the first call, and eight would be by the second one.
			errno := Zero(l, 1, 1)
			want(t, "whether Zero is answered", errno == api.OK, n > 2)
			want(t, "Write", Write(l, 1, sec("0123456789!$%&")), api.ErrDead)
			d.Crash([]bool{r.Intn(2) == 0, r.Intn(2) == 0, r.Intn(2) == 0, r.Intn(2) == 0, r.Intn(2) == 0, r.Intn(2) == 0})
			i := opened(t, d, "a")
			want(t, "what was flushed", state(i), before)
			want(t, "all", shown(t, []*image.Image{i, l[1]}, ""), all)
		}
	}
}

// 18.3: the last cluster, or the first one, is written in part and has no contents any more.
func TestWriteIntoSpoiledClusters(t *testing.T) {
	for _, x := range []struct {
		image, cluster int // what is spoiled
		at, n          int
	}{
		// The last one, behind some that were put; and the first one.
		{0, 1, 0, 3},
		{0, 0, 1, 12},
		{0, 1, 3, 13},
		// What is to be shown of the next one.
		{1, 11, 0, 11},
		{1, 8, 9, 7},
		{1, 15, 0, 15},
	} {
		d, l := full(t, 1)
		fill(t, l[1], "ABCDEFGHIJKLMNOP")
		spoil(t, d, nameOf(x.image), l[x.image], x.cluster)
		text := "0123456789!$%&/("
		what := fmt.Sprintf("%+v", x)
		undone(t, what, d, l, api.ErrSum, func() api.Errno { return Write(l, x.at, sec(text[:x.n])) })
		undone(t, what+": Zero", d, l, api.ErrSum, func() api.Errno { return Zero(l, x.at, x.n) })
	}
}

// 18.3: of several clusters that can't be written the first one tells the error.
func TestWriteTellsTheFirstCluster(t *testing.T) {
	d, l := chainOf(t, plan{1, "ab--ef--"}, plan{0, "ABCDEFGH"})
	spoil(t, d, "b", l[1], 7)
	leave(t, d, 0)
	size, _ := d.Size("a")
	within := size - len(usedBytes(t, d, "a", l[0]))
	want(t, "for how many clusters there is room", within/2, 1)
	undone(t, "no room", d, l, api.ErrSpace, func() api.Errno { return Write(l, 0, sec("0123456")) })
	undone(t, "spoiled", d, l, api.ErrSum, func() api.Errno { return Write(l, 4, sec("012")) })
	undone(t, "spoiled", d, l, api.ErrSum, func() api.Errno { return Zero(l, 0, 7) })
}

// 18.3: what Zero wrote of the first cluster is undone if the last one can't be written.
func TestZeroWithoutRoom(t *testing.T) {
	d, l := chainOf(t, plan{2, "----abcd--------"}, plan{0, "ABCDEFGHIJKLMNOP"})
	addMap(t, l[0], "on", true)
	must(t, "Flush", l[0].Flush())
	for room := range 12 {
		d := d.Copy()
		i, below := opened(t, d, "a"), opened(t, d, "b")
		l := []*image.Image{i, below}
		leave(t, d, room)
		before := whole(i)
		used, taken := usedBytes(t, d, "a", i), d.Used()
		switch errno := Zero(l, 1, 14); errno {
		case api.OK:
			want(t, "all", shown(t, l, ""), "A..............P")
		case api.ErrSpace:
			want(t, "the state", whole(i), before)
			want(t, "the sectors in use", usedBytes(t, d, "a", i), used)
			want(t, "the room", d.Used(), taken)
		default:
			t.Fatal("Zero:", errno)
		}
	}
	leave(t, d, 0)
	fillUp(t, d, l[0])
	undone(t, "no room at all", d, l, api.ErrSpace, func() api.Errno { return Zero(l, 4, 5) })
	must(t, "whole clusters need none", Zero(l, 4, 8), Discard(l, 1, 14))
	want(t, "all", shown(t, l, "")[:16], "ABCD........MNOP")
}

// fillUp takes all the room that is left within the file of an image, by what is not put into it.
func fillUp(t *testing.T, d *disk.Disk, i *image.Image) {
	t.Helper()
	for n := 0; ; n++ {
		m := i.Meta()
		if errno := i.Resize(m.Size + 4); errno != api.OK {
			t.Fatal("Resize:", errno)
		}
		last := m.Size >> m.Cluster
		if errno := i.Put(last, noisy(64, n)); errno != api.OK {
			want(t, "Put", errno, api.ErrSpace)
			return
		}
	}
}

// noisy are so many bytes that can't be packed, others for each seed.
func noisy(n, seed int) []byte {
	b := make([]byte, n)
	rand.New(rand.NewSource(int64(seed))).Read(b)
	return b
}

// 18.3: sectors that a call releases are not used again before it ends, so that a longer file is needed.
func TestReleasedSectorsDuringAWrite(t *testing.T) {
	d, l := chainOf(t, plan{0, "abcdefgh"})
	fill(t, l[0], "ABCDEFGH")
	size, _ := d.Size("a")
	free := size - len(usedBytes(t, d, "a", l[0]))
	leave(t, d, 7-free)
	// The flushed state has the letters a to h, and the present one has others, none of which may be overwritten.
	undone(t, "too much", d, l, api.ErrSpace, func() api.Errno { return Write(l, 0, sec("01234567")) })
	// One by one each call finds what the one before has released.
	for k, letter := range []string{"0", "1", "2", "3", "4", "5", "6", "7"} {
		must(t, "Write", Write(l, k, sec(letter)))
	}
	want(t, "all", shown(t, l, ""), "01234567")
}

// 18.3: the index knows what it knew before a call that failed, and nothing more.
func TestIndexBehindAFailedWrite(t *testing.T) {
	d, l := chainOf(t, plan{0, strings.Repeat("-", 300)})
	i := l[0]
	for n := range 40 {
		must(t, "Put", Write(l, n, c(n)))
	}
	// There is room for some sixty of these contents, all of which the index would know.
	var many []byte
	for n := range 62 {
		many = append(many, c(1000+n)...)
	}
	leave(t, d, 60)
	size, _ := d.Size("a")
	within := size - len(usedBytes(t, d, "a", i))
	for n := range within {
		must(t, "Put", i.Put(200+n, c(2000+n)))
	}
	shared := i.Shared()
	for range 3 {
		undone(t, "too much", d, l, api.ErrSpace, func() api.Errno { return Write(l, 100, many) })
	}
	must(t, "Remove", d.Remove("fill0"))
	for n := range 24 - within {
		must(t, "Put", i.Put(50+n, c(3000+n)))
	}
	// That is 64 in all. They are known, and none of them has gone for those of the calls.
	for n := range 40 {
		must(t, "Write", Write(l, 100+n, c(n)))
	}
	for n := range 24 - within {
		must(t, "Write", Write(l, 140+n, c(3000+n)))
	}
	want(t, "what is shared", i.Shared()-shared, 64-within)
	// Those of the calls are stored anew, each in the first sectors that are free, and are known from now on.
	must(t, "Write", Write(l, 180, c(1001)), Write(l, 181, c(1000)), Write(l, 182, c(1001)))
	want(t, "whether they stand in this order", entryAt(i, 180).Start < entryAt(i, 181).Start, true)
	want(t, "what is shared", i.Shared()-shared, 64-within+1)
}

// 18.3: behind a call that failed the same calls have the same results as if it had not been made.
func TestTheSameBehindAFailedWrite(t *testing.T) {
	run := func(fails bool) string {
		d, l := full(t, 1)
		spoil(t, d, "b", l[1], 13)
		told := ""
		for n, text := range []string{"0123", "4567", "01", "stuv", "89", "4567!$", "0123"} {
			if fails {
				undone(t, "Write", d, l, api.ErrSum, func() api.Errno { return Write(l, 0, sec("XYZ0123456789")) })
			}
			told += fmt.Sprintln(Write(l, n, sec(text)), whole(l[0]))
			if fails {
				undone(t, "Zero", d, l, api.ErrSum, func() api.Errno { return Zero(l, 1, 12) })
			}
			if n == 3 {
				told += fmt.Sprintln(l[0].Flush(), whole(l[0]))
			}
		}
		// Their writes are not durable, and lie in what is free. They are lost, or survive.
		d.Crash(nil)
		return told + state(opened(t, d, "a"))
	}
	want(t, "with calls that failed", run(true), run(false))
}
