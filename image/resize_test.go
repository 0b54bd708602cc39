package image_test

import (
	"bytes"
	"fmt"
	"slices"
	"testing"

	"matryoshka/api"
	"matryoshka/disk"
	"matryoshka/image"
)

// backed is a new image, f, that has a backing image.
func backed(t *testing.T, cluster, size int) (*disk.Disk, *image.Image) {
	t.Helper()
	d := diskOf(t, room)
	i, errno := image.Create(d, "f", cluster, size, "base")
	must(t, "Create", errno)
	return d, i
}

// kinds are the kinds of the entries of an image, of its own clusters or of those of a shot.
func kinds(i *image.Image, shot string) []int {
	var l []int
	for k := 0; ; k++ {
		_, kind, errno := i.Own(shot, k)
		if errno == api.ErrRange {
			return l
		}
		l = append(l, kind)
	}
}

// 17.3: ErrArg, with which nothing is changed.
func TestResizeRefused(t *testing.T) {
	for cluster := range 7 {
		d, i := backed(t, cluster, 4<<cluster)
		must(t, "Put", i.Put(1, big(cluster, 1)))
		takeShot(t, i, "s")
		addMap(t, i, "m", true)
		l := append([]int{-1 << cluster, 4096 + 1<<cluster, 1 << 13}, farNumbers...)
		if cluster > 0 {
			l = append(l, 1, 1<<cluster-1, 1<<cluster+1, 4095, 4096-1<<(cluster-1))
		}
		for _, n := range l {
			checkKeeps(t, fmt.Sprint("Resize to ", n), d, i, api.ErrArg, func() api.Errno { return i.Resize(n) })
		}
	}
}

// 17.3: new clusters show what the image showed there: zeros, be there a backing image or not.
func TestResizeToMore(t *testing.T) {
	for cluster := range 7 {
		for _, back := range []bool{false, true} {
			make := created
			if back {
				make = backed
			}
			_, i := make(t, cluster, 3<<cluster)
			kind := api.EntryNone
			if back {
				kind = api.EntryZero
			}
			must(t, "Put", i.Put(1, big(cluster, 1)), i.Resize(5<<cluster))
			want(t, "kinds", kinds(i, ""), []int{0, 2, 0, kind, kind})
			want(t, "Size", i.Meta().Size, 5<<cluster)
			must(t, "Put", i.Put(3, big(cluster, 1)), i.Clear(4), i.Resize(20<<cluster))
			l := []int{0, 2, 0, 2, 0}
			for len(l) < 20 {
				l = append(l, kind)
			}
			want(t, "kinds", kinds(i, ""), l)
			must(t, "Resize", i.Resize(4096))
			want(t, "clusters", len(kinds(i, "")), 4096>>cluster)
			want(t, "the last one", kinds(i, "")[4096>>cluster-1], kind)
			want(t, "the contents", fmt.Sprintf("%x", contentsOf(i, "", 1)), fmt.Sprintf("%x", big(cluster, 1)))
		}
	}
}

// 17.3: clusters beyond the Size are removed, and come not again; those of shots stay.
func TestResizeToLess(t *testing.T) {
	for _, back := range []bool{false, true} {
		make := created
		if back {
			make = backed
		}
		d, i := make(t, 1, 40)
		for k := range 20 {
			must(t, "Put", i.Put(k, big(1, k)))
		}
		takeShot(t, i, "s")
		file := bytesOf(t, d)
		for _, clusters := range []int{19, 17, 16, 15, 9, 8, 3, 1, 0} {
			must(t, "Resize", i.Resize(2*clusters))
			want(t, "clusters", kinds(i, ""), slices.Repeat([]int{2}, clusters))
			want(t, "Size", i.Meta().Size, 2*clusters)
			want(t, "leaves", len(i.Meta().T.L), (clusters+7)/8)
			for k := range clusters {
				want(t, "the contents", fmt.Sprintf("%x", contentsOf(i, "", k)), fmt.Sprintf("%x", big(1, k)))
			}
		}
		kind := api.EntryNone
		if back {
			kind = api.EntryZero
		}
		must(t, "Resize", i.Resize(40))
		want(t, "clusters", kinds(i, ""), slices.Repeat([]int{kind}, 20))
		want(t, "those of the shot", kinds(i, "s"), slices.Repeat([]int{2}, 20))
		want(t, "the file", bytes.Equal(bytesOf(t, d), file), true)
	}
}

// 17.3: to the same Size nothing but Changed is changed.
func TestResizeToTheSame(t *testing.T) {
	for cluster := range 3 {
		d, i := backed(t, cluster, 4<<cluster)
		must(t, "Put", i.Put(1, big(cluster, 1)), i.Zero(2))
		addMap(t, i, "m", true)
		must(t, "Clear, Flush", i.Clear(2), i.Flush())
		before := lasting(i)
		must(t, "Resize", i.Resize(4<<cluster))
		want(t, "the state", lasting(i), before)
		want(t, "Changed", i.Changed(), true)
		must(t, "Flush", i.Flush())
		want(t, "what is stored", lasting(opened(t, d)), before)
	}
}

// 17.3, 13.2: bitmaps lose the clusters that are removed, be they On or not, and those that are On get those that come.
func TestResizeOfBitmaps(t *testing.T) {
	_, i := created(t, 1, 16)
	m := i.Meta()
	m.Maps = []api.Bitmap{{Name: "on", On: true, L: []api.Span{{From: 1, To: 3}, {From: 6, To: 8}}}, {Name: "off", L: []api.Span{{From: 0, To: 4096}}}, {Name: "none", On: true}}
	must(t, "Turn", i.Turn(m))
	for _, x := range []struct {
		size int
		sets string
	}{
		{16, "[{on true [{1 3} {6 8}]} {off false [{0 8}]} {none true []}]"},
		{20, "[{on true [{1 3} {6 10}]} {off false [{0 8}]} {none true [{8 10}]}]"},
		{14, "[{on true [{1 3} {6 7}]} {off false [{0 7}]} {none true []}]"},
		{18, "[{on true [{1 3} {6 9}]} {off false [{0 7}]} {none true [{7 9}]}]"},
		{0, "[{on true []} {off false []} {none true []}]"},
		{4096, "[{on true [{0 2048}]} {off false []} {none true [{0 2048}]}]"},
	} {
		must(t, "Resize", i.Resize(x.size))
		want(t, fmt.Sprint("the bitmaps at ", x.size), fmt.Sprint(i.Meta().Maps), x.sets)
	}
}

// 17.3: it hangs on the Back that the image has now.
func TestResizeBehindTurn(t *testing.T) {
	_, i := created(t, 0, 2)
	m := i.Meta()
	m.Back = "base"
	must(t, "Turn, Resize", i.Turn(m), i.Resize(3))
	m = i.Meta()
	m.Back = ""
	must(t, "Turn, Resize", i.Turn(m), i.Resize(4))
	want(t, "kinds", kinds(i, ""), []int{0, 0, 1, 0})
}
