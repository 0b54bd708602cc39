package image_test

import (
	"fmt"
	"strings"
	"testing"

	"matryoshka/api"
	"matryoshka/disk"
	"matryoshka/image"
	"matryoshka/lz"
)

// checkOwn is what Own returns.
func checkOwn(t *testing.T, what string, i *image.Image, shot string, k int, b []byte, kind int, errno api.Errno) {
	t.Helper()
	gotBytes, gotKind, got := i.Own(shot, k)
	want(t, fmt.Sprintf("%s: Own(%.20q, %d)", what, shot, k), fmt.Sprintf("%x %d %d", gotBytes, gotKind, got), fmt.Sprintf("%x %d %d", b, kind, errno))
}

// 17.3: the contents and the kind of each kind of entry, in the image's own table and in those of its shots.
func TestOwn(t *testing.T) {
	for cluster := range 7 {
		_, i := created(t, cluster, 4<<cluster)
		zeros := make([]byte, 16<<cluster)
		must(t, "Put, Zero", i.Put(1, big(cluster, 1)), i.Put(2, small(cluster, 2)), i.Zero(3))
		takeShot(t, i, "s")
		must(t, "Put, Clear, Resize", i.Put(1, small(cluster, 3)), i.Clear(2), i.Put(0, zeros), i.Resize(6<<cluster), i.Put(5, big(cluster, 4)))
		takeShot(t, i, "t")
		must(t, "Resize", i.Resize(1<<cluster))

		packed := api.EntryPacked
		if cluster == 0 {
			packed = api.EntryRaw
		}
		what := fmt.Sprint("cluster ", cluster)
		checkOwn(t, what, i, "s", 0, zeros, api.EntryNone, api.OK)
		checkOwn(t, what, i, "s", 1, big(cluster, 1), api.EntryRaw, api.OK)
		checkOwn(t, what, i, "s", 2, small(cluster, 2), packed, api.OK)
		checkOwn(t, what, i, "s", 3, zeros, api.EntryZero, api.OK)
		checkOwn(t, what, i, "s", 4, nil, 0, api.ErrRange)
		checkOwn(t, what, i, "t", 0, zeros, api.EntryZero, api.OK)
		checkOwn(t, what, i, "t", 1, small(cluster, 3), packed, api.OK)
		checkOwn(t, what, i, "t", 2, zeros, api.EntryNone, api.OK)
		checkOwn(t, what, i, "t", 4, zeros, api.EntryNone, api.OK)
		checkOwn(t, what, i, "t", 5, big(cluster, 4), api.EntryRaw, api.OK)
		checkOwn(t, what, i, "t", 6, nil, 0, api.ErrRange)
		checkOwn(t, what, i, "", 0, zeros, api.EntryZero, api.OK)
		checkOwn(t, what, i, "", 1, nil, 0, api.ErrRange)
	}
}

// 17.3: ErrName comes ahead of ErrRange, for which the clusters of the shot count.
func TestOwnRefused(t *testing.T) {
	d, i := created(t, 1, 8)
	must(t, "Put", i.Put(3, big(1, 1)))
	takeShot(t, i, "s")
	must(t, "Resize", i.Resize(4))
	for _, name := range []string{"t", "S", "ss", " ", "\x00", "f", "s\x00", strings.Repeat("s", 1<<16)} {
		for _, k := range append([]int{0, 1, 2, 3, 4}, farNumbers...) {
			checkKeeps(t, "no such shot", d, i, api.ErrName, func() api.Errno {
				checkOwn(t, "no such shot", i, name, k, nil, 0, api.ErrName)
				return ownErrno(i, name, k)
			})
		}
	}
	for _, k := range append([]int{4, 5, 8, 4095, 4096}, farNumbers...) {
		checkOwn(t, "no such cluster", i, "s", k, nil, 0, api.ErrRange)
		checkOwn(t, "no such cluster", i, "", k, nil, 0, api.ErrRange)
	}
	checkOwn(t, "beyond the image", i, "", 2, nil, 0, api.ErrRange)
	checkOwn(t, "within the shot", i, "s", 2, make([]byte, 32), api.EntryNone, api.OK)
	must(t, "Resize", i.Resize(16))
	checkOwn(t, "within the image", i, "", 7, make([]byte, 32), api.EntryNone, api.OK)
	checkOwn(t, "beyond the shot", i, "s", 7, nil, 0, api.ErrRange)
}

// spoil turns a byte of f into another one, from outside; once more, and it is what it was.
func spoil(t *testing.T, d *disk.Disk, sector, at int) {
	t.Helper()
	b, errno := d.Read("f", sector, 1)
	must(t, "disk.Read", errno)
	b[at] ^= 0x10
	must(t, "disk.Write", d.Write("f", sector, b))
}

// 17.3: ErrSum after any byte of the contents was written over from outside, and none of others; the contents again when
// the byte is what it was.
func TestOwnOfWhatWasWrittenOver(t *testing.T) {
	d, i := created(t, 1, 8)
	must(t, "Put", i.Put(0, big(1, 1)), i.Put(1, small(1, 2)), i.Put(2, big(1, 3)))
	takeShot(t, i, "s")
	must(t, "Put", i.Put(2, small(1, 4)))
	for _, read := range []bool{false, true} {
		for k := range 3 {
			for _, shot := range []string{"", "s"} {
				e := entryAt(i, k)
				if shot == "s" && k == 2 {
					e.Start, e.Count, e.Kind = i.Meta().Shots[0].T.L[0][2].Start, 2, api.EntryRaw
				}
				for at := range e.Count * 16 {
					before := state(i)
					if !read {
						// A copy of the image that has read nothing yet.
						must(t, "Flush", i.Flush())
						i = opened(t, d)
					}
					spoil(t, d, e.Start+at/16, at%16)
					if e.Kind == api.EntryPacked && at >= e.Size {
						want(t, "behind what is packed", ownErrno(i, shot, k), api.OK)
					} else {
						checkOwn(t, "written over", i, shot, k, nil, 0, api.ErrSum)
					}
					checkOwn(t, "another", i, "", 3, make([]byte, 32), api.EntryNone, api.OK)
					must(t, "another", ownErrno(i, "", (k+1)%3))
					spoil(t, d, e.Start+at/16, at%16)
					if read {
						want(t, "as before", state(i), before)
					}
				}
			}
		}
	}
}

// 17.3: ErrSum for each error of check.Bytes: sectors that are not all within the file, or of no file.
func TestOwnOfMissingSectors(t *testing.T) {
	d, i := created(t, 1, 8)
	must(t, "Put", i.Put(0, big(1, 1)), i.Put(1, small(1, 2)), i.Zero(2), ownErrno(i, "", 0), ownErrno(i, "", 1))
	want(t, "where they stand", starts(i, 2), []int{4, 6})
	check := func(what string, errnos ...api.Errno) {
		t.Helper()
		want(t, what, []api.Errno{ownErrno(i, "", 0), ownErrno(i, "", 1), ownErrno(i, "", 2), ownErrno(i, "", 3)}, append(errnos, api.OK, api.OK))
	}
	check("the whole file", api.OK, api.OK)
	must(t, "disk.Cut", d.Cut("f", 6))
	check("one sector less", api.OK, api.ErrSum)
	must(t, "disk.Cut", d.Cut("f", 5))
	check("two sectors less", api.ErrSum, api.ErrSum)
	must(t, "disk.Write", d.Write("f", 4, big(1, 1)))
	check("the contents of the one again", api.OK, api.ErrSum)
	must(t, "disk.Cut", d.Cut("f", 0))
	check("an empty file", api.ErrSum, api.ErrSum)
	must(t, "disk.Remove", d.Remove("f"))
	check("no file", api.ErrSum, api.ErrSum)
	want(t, "the zeros", contentsOf(i, "", 2), make([]byte, 32))
}

// 17.3: contents that were lost in a crash are no contents.
func TestOwnAfterACrash(t *testing.T) {
	d, i := created(t, 0, 4)
	must(t, "Put, Flush, Put", i.Put(0, c("a")), i.Flush(), i.Put(1, c("b")), ownErrno(i, "", 1))
	d.Crash(nil)
	checkOwn(t, "flushed", i, "", 0, c("a"), api.EntryRaw, api.OK)
	checkOwn(t, "lost", i, "", 1, nil, 0, api.ErrSum)
}

// 17.3: entries whose contents are not what they tell, among others that have the same sectors.
func TestOwnOfWrongEntries(t *testing.T) {
	first, second := raw(60, big(1, 1)), packed(62, small(1, 2))
	turned := func(e api.Entry, turn func(e *api.Entry)) api.Entry {
		turn(&e)
		return e
	}
	entries := []api.Entry{
		first, turned(first, func(e *api.Entry) { e.Sum++ }), turned(first, func(e *api.Entry) { e.Start++ }), turned(first, func(e *api.Entry) { e.Kind, e.Count, e.Size = api.EntryPacked, 1, 16 }),
		second, turned(second, func(e *api.Entry) { e.Sum ^= 1 << 31 }), turned(second, func(e *api.Entry) { e.Size-- }), turned(second, func(e *api.Entry) { e.Start++ }),
		turned(second, func(e *api.Entry) { e.Kind, e.Count, e.Size = api.EntryRaw, 2, 0 }),
	}
	d := laid(t, api.Meta{Cluster: 1, Size: 40, T: tableOf(entries...)}, 70, 3, 1)
	must(t, "disk.Write", d.Write("f", 60, big(1, 1)), d.Write("f", 62, append(lz.Pack(small(1, 2)), make([]byte, 16-second.Size)...)))
	i := opened(t, d)
	for range 3 {
		for k, e := range entries {
			switch e {
			case first:
				checkOwn(t, "the first one", i, "", k, big(1, 1), api.EntryRaw, api.OK)
			case second:
				checkOwn(t, "the second one", i, "", k, small(1, 2), api.EntryPacked, api.OK)
			default:
				checkOwn(t, fmt.Sprintf("%+v", e), i, "", k, nil, 0, api.ErrSum)
			}
		}
	}
}

// 17.3, Ways: what was read is what is stored, however many contents are read in whatever order, and wherever contents
// stand that others stood at before.
func TestOwnOfManyClusters(t *testing.T) {
	_, i := created(t, 1, 400)
	put := map[int][]byte{}
	for n := range 900 {
		k := n * 37 % 200
		b := big(1, n)
		if n%3 == 0 {
			b = small(1, n)
		}
		must(t, "Put", i.Put(k, b))
		put[k] = b
		if n%100 == 99 {
			must(t, "Flush", i.Flush())
		}
		for x := range n % 40 {
			k := (n*7 + x*x) % 200
			if b, ok := put[k]; ok {
				want(t, "Own", fmt.Sprintf("%x", contentsOf(i, "", k)), fmt.Sprintf("%x", b))
			}
		}
	}
}
