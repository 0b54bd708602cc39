package image_test

import (
	"bytes"
	"fmt"
	"math"
	"slices"
	"sync"
	"testing"

	"matryoshka/api"
	"matryoshka/crc"
	"matryoshka/disk"
	"matryoshka/image"
	"matryoshka/lz"
	"matryoshka/maps"
	"matryoshka/meta"
	"matryoshka/shots"
	"matryoshka/slot"
)

// room is that of a disk that is large enough.
const room = 200000

// farNumbers are those that are no number of anything.
var farNumbers = []int{math.MinInt, math.MinInt + 1, -1 << 32, -4096, -64, -1, 4097, 1 << 16, 1<<31 - 1, 1 << 31, 1 << 32, 1<<32 + 1, 1 << 62, math.MaxInt - 1, math.MaxInt}

func want[T any](t *testing.T, what string, got, wanted T) {
	t.Helper()
	g, w := fmt.Sprintf("%+v", got), fmt.Sprintf("%+v", wanted)
	if g == w {
		return
	}
	// Of what is long it tells where it begins to be wrong.
	from := 0
	for from < min(len(g), len(w)) && g[from] == w[from] {
		from++
	}
	from = max(0, from-200)
	t.Fatalf("%s: (from %d on) %.1000s, want %.1000s", what, from, g[from:], w[from:])
}

// must is that calls return no error.
func must(t *testing.T, what string, l ...api.Errno) {
	t.Helper()
	for _, errno := range l {
		want(t, what, errno, api.OK)
	}
}

// diskOf is an empty disk with room for so many sectors.
func diskOf(t *testing.T, room int) *disk.Disk {
	t.Helper()
	d, errno := disk.New(room)
	must(t, "disk.New", errno)
	return d
}

// created is a new image, f, on a disk of its own.
func created(t *testing.T, cluster, size int) (*disk.Disk, *image.Image) {
	t.Helper()
	d := diskOf(t, room)
	i, errno := image.Create(d, "f", cluster, size, "")
	must(t, "Create", errno)
	return d, i
}

// opened is the image of f.
func opened(t *testing.T, d *disk.Disk) *image.Image {
	t.Helper()
	i, errno := image.Open(d, "f")
	must(t, "Open", errno)
	return i
}

// c is a cluster of one sector, whose bytes are those of a text, again and again.
func c(text string) []byte {
	return bytes.Repeat([]byte(text), 16)[:16]
}

// noise is so many bytes that can't be packed, others for each seed.
func noise(n, seed int) []byte {
	b := make([]byte, n)
	x := uint32(seed)*2654435761 + 12345
	for k := range b {
		x = x*1664525 + 1013904223
		b[k] = byte(x>>24) ^ byte(x>>16)
	}
	if n > 0 {
		// It is never all zeros, whatever the seed.
		b[0] |= 1
	}
	return b
}

// big is a cluster of noise.
func big(cluster, seed int) []byte {
	return noise(16<<cluster, seed)
}

// small is a cluster of which nothing but the first six bytes, of noise, is not zero.
func small(cluster, seed int) []byte {
	return append(noise(6, seed), make([]byte, 16<<cluster-6)...)
}

// packing is a cluster of which lz.Pack makes so many bytes, if there is one.
func packing(cluster, n, seed int) ([]byte, bool) {
	for noisy := range 16 << cluster {
		b := append(noise(noisy+1, seed), make([]byte, 16<<cluster-noisy-1)...)
		if len(lz.Pack(b)) == n {
			return b, true
		}
	}
	return nil, false
}

// bytesOf are all bytes of f.
func bytesOf(t *testing.T, d *disk.Disk) []byte {
	t.Helper()
	size, errno := d.Size("f")
	must(t, "disk.Size", errno)
	b, errno := d.Read("f", 0, size)
	must(t, "disk.Read", errno)
	return b
}

// entryAt is the entry of a cluster.
func entryAt(i *image.Image, k int) api.Entry {
	m := i.Meta()
	if k/8 >= len(m.T.L) || len(m.T.L[k/8]) == 0 {
		return api.Entry{}
	}
	return m.T.L[k/8][k%8]
}

// starts are where the entries of the first n clusters start.
func starts(i *image.Image, n int) []int {
	var l []int
	for k := range n {
		l = append(l, entryAt(i, k).Start)
	}
	return l
}

// shown tells what Own returns of the clusters of a shot, or of none, up to the first one that there is not.
func shown(i *image.Image, shot string) string {
	told := ""
	for k := 0; ; k++ {
		b, kind, errno := i.Own(shot, k)
		told += fmt.Sprintf("%x %d %d; ", b, kind, errno)
		if errno != api.OK && errno != api.ErrSum {
			return told
		}
	}
}

// state tells all that calls which change nothing show of an image.
func state(i *image.Image) string {
	m := i.Meta()
	told := fmt.Sprintf("%+v %v %d %s", m, i.Changed(), i.Shared(), shown(i, ""))
	for _, s := range m.Shots {
		told += s.Name + " " + shown(i, s.Name)
	}
	return told
}

// lasting tells of a state what its image has when it is opened again: all but the Counts, Changed and Shared.
func lasting(i *image.Image) string {
	m := i.Meta()
	m.Counts = nil
	told := fmt.Sprintf("%+v %s", m, shown(i, ""))
	for _, s := range m.Shots {
		told += s.Name + " " + shown(i, s.Name)
	}
	return told
}

// checkKeeps is that a call returns this error, and that nothing is changed by it, neither the image nor the disk.
func checkKeeps(t *testing.T, what string, d *disk.Disk, i *image.Image, wanted api.Errno, call func() api.Errno) {
	t.Helper()
	image, used, files := state(i), d.Used(), fmt.Sprint(d.List())
	var contents []byte
	if _, errno := d.Size("f"); errno == api.OK {
		contents = bytesOf(t, d)
	}
	want(t, what, call(), wanted)
	want(t, what+": the state", state(i), image)
	want(t, what+": the files", fmt.Sprint(d.List()), files)
	want(t, what+": the room", d.Used(), used)
	if contents != nil {
		want(t, what+": the bytes", bytes.Equal(bytesOf(t, d), contents), true)
	}
}

// withShot is a meta with one more shot.
func withShot(t *testing.T, m api.Meta, name string) api.Meta {
	t.Helper()
	m, errno := shots.Add(m, name)
	must(t, "shots.Add", errno)
	return m
}

// takeShot takes a shot of an image.
func takeShot(t *testing.T, i *image.Image, name string) {
	t.Helper()
	must(t, "Turn", i.Turn(withShot(t, i.Meta(), name)))
}

// addMap gives an image one more bitmap.
func addMap(t *testing.T, i *image.Image, name string, on bool) {
	t.Helper()
	m := i.Meta()
	l, errno := maps.Add(m.Maps, name)
	must(t, "maps.Add", errno)
	m.Maps, errno = maps.Turn(l, name, on)
	must(t, "maps.Turn", errno, i.Turn(m))
}

// tableOf has these entries, in leaves of eight; a leaf without any is absent.
func tableOf(entries ...api.Entry) api.Table {
	var t api.Table
	last := 0
	for chunk := range slices.Chunk(entries, 8) {
		leaf := append(slices.Clone(chunk), make([]api.Entry, 8-len(chunk))...)
		if slices.ContainsFunc(leaf, func(e api.Entry) bool { return e.Kind > 0 }) {
			last = len(t.L) + 1
		} else {
			leaf = nil
		}
		t.L = append(t.L, leaf)
	}
	return api.Table{L: t.L[:last]}
}

// laid is a disk with a file f of so many sectors, whose state is m, with a blob from the sector start on.
func laid(t *testing.T, m api.Meta, sectors, start, seq int) *disk.Disk {
	t.Helper()
	d := diskOf(t, room)
	blob, errno := meta.Put(m)
	must(t, "meta.Put", errno)
	located, errno := slot.Put(api.Slot{Seq: seq, Start: start, Count: len(blob), Sum: crc.Sum(blob)})
	must(t, "slot.Put", errno)
	whole := append(blob, make([]byte, (16-len(blob)%16)%16)...)
	must(t, "the file", d.Create("f"), d.Write("f", sectors-1, make([]byte, 16)), d.Write("f", start, whole), d.Write("f", 1-seq%2, located), d.Flush("f"))
	return d
}

// 17: the chapter's example.
func TestExample(t *testing.T) {
	d, i := created(t, 0, 4)
	must(t, "Put, Flush", i.Put(1, c("x..")), i.Flush())
	b, kind, errno := opened(t, d).Own("", 1)
	want(t, "Own", fmt.Sprintf("%s %d %d", b, kind, errno), fmt.Sprintf("%s %d %d", c("x.."), api.EntryRaw, api.OK))
}

// R5: images over disks of their own share nothing, and the same calls have the same results.
func TestImagesShareNothing(t *testing.T) {
	run := func(seed int) string {
		d, i := created(t, 1, 64)
		told := ""
		for n := range 60 {
			told += fmt.Sprintln(i.Put((n*seed+n/7)%32, big(1, n%(seed+5))), i.Put((n*3)%33, small(1, n%4*seed)), i.Shared())
			if n%9 == seed%9 {
				told += fmt.Sprintln(i.Flush())
			}
		}
		return told + state(i) + fmt.Sprintf("%x", bytesOf(t, d))
	}
	var group sync.WaitGroup
	told := make([]string, 8)
	for n := range told {
		group.Go(func() { told[n] = run(n%4 + 1) })
	}
	group.Wait()
	for n := range told {
		want(t, "what was told", told[n], run(n%4+1))
	}
}

// R5: two images of one disk, in files of their own, share nothing but the room.
func TestImagesOfOneDisk(t *testing.T) {
	d, i := created(t, 0, 8)
	j, errno := image.Create(d, "g", 0, 8, "f")
	must(t, "Create", errno)
	must(t, "the one", i.Put(0, c("a")), i.Put(1, c("b")), i.Flush(), i.Put(2, c("a")))
	before, contents := state(i), bytesOf(t, d)
	must(t, "the other", j.Put(0, c("a")), j.Put(1, c("z")), j.Flush(), j.Zero(2), j.Resize(16))
	want(t, "the one", state(i), before)
	want(t, "its file", bytes.Equal(bytesOf(t, d), contents), true)
	want(t, "what the other has", j.Shared(), 0)
}
