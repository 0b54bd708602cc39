package image_test

import (
	"bytes"
	"fmt"
	"testing"

	"matryoshka/api"
	"matryoshka/disk"
	"matryoshka/file"
	"matryoshka/image"
)

// checkFlush is that Flush stores the state as file.Save does.
func checkFlush(t *testing.T, what string, d *disk.Disk, i *image.Image) {
	t.Helper()
	_, last, errno := file.Load(d, "f")
	must(t, what, errno)
	var kept []int
	for _, sector := range inUse(t, d, i) {
		for len(kept) <= sector {
			kept = append(kept, 0)
		}
		kept[sector]++
	}
	expected, before := d.Copy(), lasting(i)
	_, errno = file.Save(expected, "f", i.Meta(), last, kept)
	must(t, what, errno, i.Flush())
	want(t, what+": the bytes", fmt.Sprintf("%x", bytesOf(t, d)), fmt.Sprintf("%x", bytesOf(t, expected)))
	want(t, what+": the current state", lasting(i), before)
	want(t, what+": Changed", i.Changed(), false)
	want(t, what+": what is stored", lasting(opened(t, d)), before)
	fallen := d.Copy()
	fallen.Crash(nil)
	want(t, what+": after a crash", lasting(opened(t, fallen)), before)
}

// 17.4: the whole current state is stored, and stands where neither of the states stands.
func TestFlush(t *testing.T) {
	for cluster := range 4 {
		d, i := backed(t, cluster, 40<<cluster)
		addMap(t, i, "m", true)
		checkFlush(t, "a bitmap", d, i)
		for n := range 40 {
			what := fmt.Sprint("round ", n)
			must(t, what, i.Put(n, big(cluster, n)), i.Put((n+7)%40, small(cluster, n%9)), i.Zero(n*3%40), i.Clear(n*11%40))
			if n%7 == 6 && n < 30 {
				takeShot(t, i, fmt.Sprint("s", n))
			}
			if n == 33 {
				must(t, what, i.Resize(50<<cluster), i.Resize(41<<cluster))
			}
			if n%3 == 0 {
				checkFlush(t, what, d, i)
			}
		}
		must(t, "Resize", i.Resize(0))
		checkFlush(t, "the last one", d, i)
	}
}

// 17.4: without a change nothing is written, whatever was done to the file.
func TestFlushWithoutAChange(t *testing.T) {
	d, i := created(t, 0, 8)
	must(t, "Flush of a new image", i.Flush(), i.Put(0, c("a")), i.Flush())
	for _, x := range []*image.Image{i, opened(t, d)} {
		before := bytesOf(t, d)
		// The next sector that is written would not be.
		d.Power(1)
		must(t, "a second Flush", x.Flush(), x.Flush())
		want(t, "the file", bytes.Equal(bytesOf(t, d), before), true)
	}
	want(t, "a write", d.Write("f", 0, make([]byte, 16)), api.ErrDead)
	d.Crash(nil)
	// A write from outside that is not durable stays so.
	must(t, "disk.Write, Flush", d.Write("f", 3, c("?")), i.Flush())
	d.Crash(nil)
	b, _ := d.Read("f", 3, 1)
	want(t, "what is durable", bytes.Equal(b, c("?")), false)
	must(t, "Remove, Flush", d.Remove("f"), i.Flush())
}

// checkFailingFlush is that Flush returns an error, and that the state stays as it is, the current one and the stored one.
func checkFailingFlush(t *testing.T, what string, d *disk.Disk, i *image.Image, wanted api.Errno) {
	t.Helper()
	want(t, what+": Changed", i.Changed(), true)
	stored := ""
	if j, errno := image.Open(d, "f"); errno == api.OK {
		stored = lasting(j)
	}
	checkKeeps(t, what, d, i, wanted, i.Flush)
	if stored != "" {
		want(t, what+": what is stored", lasting(opened(t, d)), stored)
	}
}

// 17.4: the errors of file.Save.
func TestFlushRefused(t *testing.T) {
	d := diskOf(t, 9)
	i, errno := image.Create(d, "f", 0, 8, "")
	must(t, "Create, Put", errno, i.Put(0, c("a")))
	checkFailingFlush(t, "no room", d, i, api.ErrSpace)
	must(t, "Put", i.Put(1, c("b")))
	want(t, "where they stand", starts(i, 2), []int{4, 5})
	checkFailingFlush(t, "no room", d, i, api.ErrSpace)
	must(t, "Put, Clear", i.Put(0, c("b")), i.Clear(0), i.Clear(1))
	checkFlush(t, "room again", d, i)

	d, i = gapped(t, 3)
	must(t, "Zero", i.Zero(63))
	checkFailingFlush(t, "no place", d, i, api.ErrSpace)

	d = laid(t, api.Meta{Size: 8}, 10, 5, 1<<31)
	i = opened(t, d)
	must(t, "Put", i.Put(0, c("a")))
	checkFailingFlush(t, "the greatest Seq", d, i, api.ErrArg)

	d, i = created(t, 0, 8)
	must(t, "Put, Remove", i.Zero(0), d.Remove("f"))
	checkFailingFlush(t, "no file", d, i, api.ErrName)
}

// 17.4: behind an ErrDead of Flush the current state is as it was, and the next one stores it.
func TestFlushWhenThePowerFails(t *testing.T) {
	for n := 1; n < 8; n++ {
		d, i := created(t, 0, 8)
		must(t, "Put, Flush, Put", i.Put(0, c("a")), i.Flush(), i.Put(1, c("b")), i.Clear(0))
		before, stored := lasting(i), lasting(opened(t, d))
		d.Power(n)
		errno := i.Flush()
		if errno == api.OK {
			want(t, "Changed", i.Changed(), false)
			continue
		}
		want(t, "the error", errno, api.ErrDead)
		want(t, "Changed", i.Changed(), true)
		// All that was written survives, as if nothing but the slot was missing.
		d.Crash(picksOf(1<<20-1, 20))
		want(t, "the current state", lasting(i), before)
		want(t, "what is stored", lasting(opened(t, d)), stored)
		checkFlush(t, "once more", d, i)
	}
}

// 17.4: Flush keeps the contents that the flushed and the current state have: no blob is written over them.
func TestFlushKeepsContents(t *testing.T) {
	d, i := created(t, 0, 64)
	for n := range 60 {
		for k := range 3 {
			must(t, "Put", i.Put((n*5+k*k)%64, big(0, n*3+k)))
		}
		must(t, "Clear", i.Clear(n*7%64))
		before, used := bytesOf(t, d), inUse(t, d, i)
		checkFlush(t, fmt.Sprint("round ", n), d, i)
		after := bytesOf(t, d)
		for _, sector := range used {
			want(t, fmt.Sprintf("round %d, sector %d", n, sector), after[sector*16:sector*16+16], before[sector*16:sector*16+16])
		}
	}
}

// 17.4: Shared, for none, two and three equal entries, in the image's own table and in shots.
func TestShared(t *testing.T) {
	for cluster := range 3 {
		_, i := created(t, cluster, 8<<cluster)
		check := func(what string, shared int) {
			t.Helper()
			want(t, what, i.Shared(), shared)
		}
		check("no entries", 0)
		must(t, "Zero, Put", i.Zero(0), i.Zero(1), i.Put(2, make([]byte, 16<<cluster)))
		check("zeros", 0)
		must(t, "Put", i.Put(3, big(cluster, 1)), i.Put(4, small(cluster, 2)))
		check("one each", 0)
		must(t, "Put", i.Put(5, big(cluster, 1)))
		check("two and one", 1)
		must(t, "Put", i.Put(6, big(cluster, 1)))
		check("three and one", 2)
		must(t, "Put", i.Put(7, small(cluster, 2)))
		check("three and two", 3)
		takeShot(t, i, "s")
		check("a shot of them", 8)
		must(t, "Resize", i.Resize(0))
		check("the shot alone", 3)
		takeShot(t, i, "t")
		check("an empty shot too", 3)
		must(t, "Resize, Put", i.Resize(8<<cluster), i.Put(0, big(cluster, 1)), i.Put(1, big(cluster, 5)))
		check("one of the shot", 4)
		must(t, "Flush", i.Flush())
		check("flushed", 4)
	}
}

// 17.4: it is Start alone that counts, not whether the contents are equal.
func TestSharedGoesByStart(t *testing.T) {
	e := func(start, count, size int, sum uint32) api.Entry {
		return api.Entry{Kind: api.EntryPacked, Start: start, Count: count, Size: size, Sum: sum}
	}
	m := api.Meta{Cluster: 2, Size: 32, T: tableOf(e(40, 1, 9, 7), e(40, 2, 20, 7), e(41, 1, 9, 7), e(42, 1, 9, 7), api.Entry{Kind: api.EntryRaw, Start: 42, Count: 4})}
	want(t, "Shared", opened(t, laid(t, m, 60, 3, 1)).Shared(), 2)
}
