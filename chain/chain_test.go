package chain

import (
	"bytes"
	"fmt"
	"math"
	"strings"
	"testing"

	"matryoshka/api"
	"matryoshka/disk"
	"matryoshka/file"
	"matryoshka/image"
	"matryoshka/maps"
	"matryoshka/shots"
)

// farNumbers are those that are no number of anything.
var farNumbers = []int{math.MinInt, math.MinInt + 1, -1 << 32, -4096, -64, -1, 4097, 1 << 16, 1<<31 - 1, 1 << 31, 1 << 32, 1<<32 + 1, 1 << 62, math.MaxInt - 1, math.MaxInt}

// diskRoom is that of the disks of chains.
const diskRoom = 100000

// sec are sectors, one for each letter of a text; a dot stands for zeros, any other letter for other bytes that begin
// with it.
func sec(text string) []byte {
	var b []byte
	for _, letter := range []byte(text) {
		if letter == '.' {
			b = append(b, make([]byte, 16)...)
			continue
		}
		for n := range 16 {
			// It is never zero.
			b = append(b, letter+byte(n*n)|1<<7*byte(min(n, 1)))
		}
	}
	return b
}

// letters are those of a text of which b is the sectors; a question mark stands for what none is.
func letters(b []byte) string {
	text := ""
	for ; len(b) >= 16; b = b[16:] {
		switch letter := string(b[:1]); {
		case bytes.Equal(b[:16], sec(".")):
			text += "."
		case bytes.Equal(b[:16], sec(letter)):
			text += letter
		default:
			text += "?"
		}
	}
	return text + strings.Repeat("!", len(b))
}

// diskOf is an empty disk with room for so many sectors.
func diskOf(t *testing.T, room int) *disk.Disk {
	t.Helper()
	d, errno := disk.New(room)
	must(t, "disk.New", errno)
	return d
}

// imageOf is a new image. Its clusters have the contents that a text tells; those of a minus have none of their own.
func imageOf(t *testing.T, d *disk.Disk, name string, cluster int, text string) *image.Image {
	t.Helper()
	i, errno := image.Create(d, name, cluster, len(text), "base")
	must(t, "Create", errno)
	fill(t, i, text)
	return i
}

// fill gives an image the contents that a text tells.
func fill(t *testing.T, i *image.Image, text string) {
	t.Helper()
	m := i.Meta()
	for k := range m.Size >> m.Cluster {
		own := text[k<<m.Cluster : (k+1)<<m.Cluster]
		if strings.Contains(own, "-") {
			must(t, "Clear", i.Clear(k))
			continue
		}
		must(t, "Put", i.Put(k, sec(own)))
	}
}

// plan is what imageOf makes an image of.
type plan struct {
	cluster int
	text    string
}

// chainOf is a chain of new images, named a and so on, on a disk of their own. They have been flushed.
func chainOf(t *testing.T, plans ...plan) (*disk.Disk, []*image.Image) {
	t.Helper()
	d := diskOf(t, diskRoom)
	var l []*image.Image
	for k, p := range plans {
		i := imageOf(t, d, nameOf(k), p.cluster, p.text)
		must(t, "Flush", i.Flush())
		l = append(l, i)
	}
	return d, l
}

// nameOf is the name of the image of a chain that has k others above it.
func nameOf(k int) string {
	return string(rune('a' + k))
}

// takeShot takes a shot of an image.
func takeShot(t *testing.T, i *image.Image, name string) {
	t.Helper()
	m, errno := shots.Add(i.Meta(), name)
	must(t, "Turn", errno, i.Turn(m))
}

// addMap gives an image one more bitmap, which is on or not.
func addMap(t *testing.T, i *image.Image, name string, on bool) {
	t.Helper()
	m := i.Meta()
	l, errno := maps.Add(m.Maps, name)
	must(t, "maps.Add", errno)
	m.Maps, errno = maps.Turn(l, name, on)
	must(t, "Turn", errno, i.Turn(m))
}

// entryAt is the entry of a cluster of the image itself.
func entryAt(i *image.Image, k int) api.Entry {
	m := i.Meta()
	if k/8 >= len(m.T.L) || len(m.T.L[k/8]) == 0 {
		return api.Entry{}
	}
	return m.T.L[k/8][k%8]
}

// kinds are the kinds of the entries of all clusters.
func kinds(i *image.Image) []int {
	m := i.Meta()
	var l []int
	for k := range m.Size >> m.Cluster {
		l = append(l, entryAt(i, k).Kind)
	}
	return l
}

// spoil changes, from outside, the first sector of what is stored for a cluster.
func spoil(t *testing.T, d *disk.Disk, name string, i *image.Image, k int) {
	t.Helper()
	e := entryAt(i, k)
	want(t, "whether there are sectors", e.Count > 0, true)
	b, errno := d.Read(name, e.Start, 1)
	must(t, "disk.Read", errno)
	for n := range b {
		b[n] ^= 0xff
	}
	must(t, "disk.Write", d.Write(name, e.Start, b))
}

// checkRead is that Read answers what a text tells, or this error.
func checkRead(t *testing.T, l []*image.Image, shot string, at, n int, text string, errno api.Errno) {
	t.Helper()
	b, got := Read(l, shot, at, n)
	what := fmt.Sprintf("Read(%q, %d, %d)", shot, at, n)
	want(t, what, got, errno)
	want(t, what, letters(b), text)
}

// shown is all that a chain shows, of a shot or of the first image.
func shown(t *testing.T, l []*image.Image, shot string) string {
	t.Helper()
	m := l[0].Meta()
	size := m.Size
	if shot != "" {
		s, ok := shots.Find(m, shot)
		want(t, "whether there is the shot", ok, true)
		size = s.Size
	}
	b, errno := Read(l, shot, 0, size)
	must(t, "Read", errno)
	return letters(b)
}

// whole tells all that calls which change nothing show of an image, the number of the sectors of its file too.
func whole(i *image.Image) string {
	return state(i) + fmt.Sprint(i.Meta().Counts)
}

// opened is the image of a file as it is found there.
func opened(t *testing.T, d *disk.Disk, name string) *image.Image {
	t.Helper()
	i, errno := image.Open(d, name)
	must(t, "Open", errno)
	return i
}

// usedBytes are the bytes of all sectors that the current and the flushed state of an image use, by their numbers.
func usedBytes(t *testing.T, d *disk.Disk, name string, i *image.Image) map[int]string {
	t.Helper()
	flushed, s, errno := file.Load(d, name)
	must(t, "Load", errno)
	used := map[int]string{}
	add := func(sector int) {
		b, errno := d.Read(name, sector, 1)
		must(t, "disk.Read", errno)
		used[sector] = string(b)
	}
	for _, counts := range [][]int{i.Meta().Counts, flushed.Counts} {
		for sector, n := range counts {
			if n > 0 {
				add(sector)
			}
		}
	}
	for n := range (s.Count + 15) / 16 {
		add(s.Start + n)
	}
	return used
}

// 18: the chapter's example.
func TestExample(t *testing.T) {
	_, l := chainOf(t, plan{2, "----"}, plan{0, "abcd"})
	must(t, "Write", Write(l, 1, sec("X")))
	b, kind, errno := l[0].Own("", 0)
	must(t, "Own", errno)
	want(t, "what is its own", letters(b), "aXcd")
	want(t, "whether it has contents", kind >= api.EntryRaw, true)
}

// powerOff lets the power of a disk fail.
func powerOff(t *testing.T, d *disk.Disk, name string) {
	t.Helper()
	d.Power(1)
	want(t, "the power", d.Write(name, 0, make([]byte, 16)), api.ErrDead)
}
