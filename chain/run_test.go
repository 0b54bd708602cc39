package chain

import (
	"bytes"
	"fmt"
	"math/rand"
	"slices"
	"strings"
	"testing"

	"matryoshka/api"
	"matryoshka/disk"
	"matryoshka/image"
)

// guest is one image of a run as chapter 18 tells of it: what its clusters have of their own (nil, if that is nothing),
// and which of them have changed.
type guest struct {
	cluster int
	own     [][]byte
	changed map[int]bool
	shot    [][]byte
}

// sectorOf is what a sector of a chain of guests shows, with these contents of the first one.
func sectorOf(l []*guest, own [][]byte, sector int) []byte {
	top := l[0]
	k := sector >> top.cluster
	switch {
	case k >= len(own):
		return make([]byte, 16)
	case own[k] != nil:
		within := sector & (1<<top.cluster - 1)
		return own[k][within*16 : within*16+16]
	case len(l) == 1:
		return make([]byte, 16)
	}
	return sectorOf(l[1:], l[1].own, sector)
}

// all is all that a chain of guests shows, with these contents of the first one.
func all(l []*guest, own [][]byte) []byte {
	var b []byte
	for sector := range len(own) << l[0].cluster {
		b = append(b, sectorOf(l, own, sector)...)
	}
	return b
}

// set gives each cluster of the first guest that has some of the sectors what it is to show.
func set(l []*guest, at, n int, shows []byte, which func(whole bool) bool) {
	top := l[0]
	size := 1 << top.cluster
	for k := range top.own {
		first, end := max(at, k*size), min(at+n, k*size+size)
		if first < end && which(end-first == size) {
			top.own[k] = slices.Clone(shows[k*size*16 : (k+1)*size*16])
			top.changed[k] = true
		}
	}
}

// run is images upon one another, and guests that are to show the same.
type run struct {
	t      *testing.T
	r      *rand.Rand
	d      *disk.Disk
	l      []*image.Image
	guests []*guest
}

// runOf are new images, of any sizes, which have nothing of their own.
func runOf(t *testing.T, seed int64) *run {
	x := &run{t: t, r: rand.New(rand.NewSource(seed)), d: diskOf(t, diskRoom)}
	for k := range 1 + x.r.Intn(4) {
		cluster := x.r.Intn(4)
		clusters := 1 + x.r.Intn(40)>>cluster
		i, errno := image.Create(x.d, nameOf(k), cluster, clusters<<cluster, "base")
		must(t, "Create", errno)
		addMap(t, i, "m", true)
		must(t, "Flush", i.Flush())
		x.l = append(x.l, i)
		x.guests = append(x.guests, &guest{cluster: cluster, own: make([][]byte, clusters), changed: map[int]bool{}})
	}
	return x
}

// contents are any sectors, of which some are equal, and some are zeros.
func (x *run) contents(n int) []byte {
	var b []byte
	for range n {
		b = append(b, sec(string(".abcdefg"[x.r.Intn(8)]))...)
	}
	if x.r.Intn(5) == 0 {
		clear(b)
	}
	return b
}

// write writes by any of the three functions to an image and to its guest; it tells what is shown then.
func (x *run) write(from int) (string, api.Errno, []byte) {
	l, guests := x.l[from:], x.guests[from:]
	size := len(guests[0].own) << guests[0].cluster
	at := x.r.Intn(size + 1)
	n := x.r.Intn(size - at + 1)
	if x.r.Intn(3) == 0 {
		n = min(n, x.r.Intn(4))
	}
	shows := all(guests, guests[0].own)
	every := func(bool) bool { return true }
	switch x.r.Intn(4) {
	case 0:
		errno := Discard(l, at, n)
		zeros := slices.Clone(shows)
		clear(zeros[at*16 : (at+n)*16])
		if errno == api.OK {
			set(guests, at, n, zeros, func(whole bool) bool { return whole })
		}
		return fmt.Sprintf("Discard(%d, %d)", at, n), errno, all(guests, guests[0].own)
	case 1:
		clear(shows[at*16 : (at+n)*16])
		errno := Zero(l, at, n)
		if errno == api.OK {
			set(guests, at, n, shows, every)
		}
		return fmt.Sprintf("Zero(%d, %d)", at, n), errno, shows
	default:
		b := x.contents(n)
		copy(shows[at*16:], b)
		errno := Write(l, at, b)
		if errno == api.OK {
			set(guests, at, n, shows, every)
		}
		return fmt.Sprintf("Write(%d, %s)", at, letters(b)), errno, shows
	}
}

// check is that all images show what their guests do.
func (x *run) check(what string) {
	x.t.Helper()
	for k := range x.l {
		top := x.guests[k]
		b, errno := Read(x.l[k:], "", 0, len(top.own)<<top.cluster)
		must(x.t, what, errno)
		want(x.t, fmt.Sprint(what, ": image ", k), letters(b), letters(all(x.guests[k:], top.own)))
		for n, kind := range kinds(x.l[k]) {
			wanted := top.own[n] == nil
			want(x.t, fmt.Sprint(what, ": whether it shows through ", k, n), kind == none, wanted)
			if !wanted {
				want(x.t, fmt.Sprint(what, ": whether it is zeros ", k, n), kind == zero, bytes.Equal(top.own[n], make([]byte, 16<<top.cluster)))
			}
		}
		if top.shot != nil {
			b, errno := Read(x.l[k:], "s", 0, len(top.shot)<<top.cluster)
			must(x.t, what, errno)
			want(x.t, fmt.Sprint(what, ": shot ", k), letters(b), letters(all(x.guests[k:], top.shot)))
		}
		x.checkMap(what, k)
	}
}

// checkMap is that the bitmap has the clusters that have changed, and no others.
func (x *run) checkMap(what string, k int) {
	x.t.Helper()
	text, wanted := []byte(strings.Repeat(" ", len(x.guests[k].own))), []byte(strings.Repeat(" ", len(x.guests[k].own)))
	for _, s := range x.l[k].Meta().Maps[0].L {
		for n := s.From; n < s.To; n++ {
			text[n] = 'x'
		}
	}
	for n := range x.guests[k].changed {
		wanted[n] = 'x'
	}
	want(x.t, fmt.Sprint(what, ": bitmap ", k), string(text), string(wanted))
}

// other changes an image by something that is not a function of this layer.
func (x *run) other(k int) {
	i, top := x.l[k], x.guests[k]
	switch x.r.Intn(6) {
	case 0:
		n := x.r.Intn(len(top.own))
		must(x.t, "Clear", i.Clear(n))
		top.own[n], top.changed[n] = nil, true
	case 1:
		if top.shot == nil {
			takeShot(x.t, i, "s")
			top.shot = slices.Clone(top.own)
		}
	case 2:
		must(x.t, "Flush", i.Flush())
	case 3:
		b, errno := Cluster(x.l[k:], "", x.r.Intn(len(top.own)))
		must(x.t, "Cluster", errno)
		clear(b)
	}
}

// 18.4: any writes to the first image, held against a plain list of bytes. What is below remains as it was.
func TestRunAgainstPlainBytes(t *testing.T) {
	for seed := range int64(60) {
		x := runOf(t, seed)
		for k := range slices.Backward(x.l) {
			_, errno, _ := x.write(k)
			must(t, "what is below", errno)
		}
		plain := all(x.guests, x.guests[0].own)
		before := ""
		for _, i := range x.l[1:] {
			before += whole(i)
		}
		for n := range 60 {
			what, errno, shows := x.write(0)
			must(t, what, errno)
			plain = shows
			b, errno := Read(x.l, "", 0, len(plain)/16)
			must(t, "Read", errno)
			want(t, fmt.Sprint(seed, n, what), letters(b), letters(plain))
		}
		after := ""
		for _, i := range x.l[1:] {
			after += whole(i)
		}
		want(t, "what is below", after, before)
		x.check(fmt.Sprint("run ", seed))
	}
}

// 18.4: any writes to any of the images, between other calls; each of them shows what it is to show, and so do shots.
func TestRun(t *testing.T) {
	for seed := range int64(80) {
		x := runOf(t, 1000+seed)
		for n := range 50 {
			k := x.r.Intn(len(x.l))
			what, errno, _ := x.write(k)
			must(t, what, errno)
			x.other(x.r.Intn(len(x.l)))
			x.check(fmt.Sprint("run ", seed, ", step ", n, ": image ", k, " ", what))
		}
		for k, i := range x.l {
			must(t, "Flush", i.Flush())
			x.l[k] = opened(t, x.d, nameOf(k))
		}
		x.check("opened again")
	}
}

// 18.3: any writes with little room: each of them is made as a whole, or not at all.
func TestRunWithLittleRoom(t *testing.T) {
	failed, made := 0, 0
	for seed := range int64(60) {
		x := runOf(t, 2000+seed)
		leave(t, x.d, x.r.Intn(30))
		for n := range 50 {
			k := x.r.Intn(len(x.l))
			before, used, taken := whole(x.l[k]), usedBytes(t, x.d, nameOf(k), x.l[k]), x.d.Used()
			what, errno, _ := x.write(k)
			what = fmt.Sprint("run ", seed, ", step ", n, ": image ", k, " ", what)
			if errno == api.OK {
				made++
			} else {
				failed++
				want(t, what, errno, api.ErrSpace)
				want(t, what, whole(x.l[k]), before)
				want(t, what+": the room", x.d.Used(), taken)
				want(t, what+": the sectors in use", usedBytes(t, x.d, nameOf(k), x.l[k]), used)
			}
			x.check(what)
			if x.r.Intn(4) == 0 {
				if errno := x.l[k].Flush(); errno != api.ErrSpace {
					must(t, "Flush", errno)
				}
			}
		}
	}
	want(t, "whether enough of both were met", failed > 100 && made > 100, true)
}

// 18.3: any writes, of which the power ends some; each time all images are as they were flushed.
func TestRunWithCrashes(t *testing.T) {
	fallen := 0
	for seed := range int64(60) {
		x := runOf(t, 3000+seed)
		for n := range 60 {
			k := x.r.Intn(len(x.l))
			what, errno, _ := x.write(k)
			what = fmt.Sprint("run ", seed, ", step ", n, ": image ", k, " ", what)
			must(t, what, errno)
			must(t, "Flush", x.l[k].Flush())
			if x.r.Intn(4) > 0 {
				continue
			}
			kept := x.copies()
			x.d.Power(1 + x.r.Intn(12))
			errno = api.OK
			for range 6 {
				if _, errno, _ = x.write(x.r.Intn(len(x.l))); errno != api.OK {
					want(t, what, errno, api.ErrDead)
					fallen++
					break
				}
			}
			var picks []bool
			for range x.r.Intn(40) {
				picks = append(picks, x.r.Intn(2) == 0)
			}
			x.d.Crash(picks)
			x.guests = kept
			for k := range x.l {
				x.l[k] = opened(t, x.d, nameOf(k))
			}
			x.check(what + ", and a crash")
		}
	}
	want(t, "whether the power failed often enough", fallen > 100, true)
}

// copies are independent guests in the same state.
func (x *run) copies() []*guest {
	var l []*guest
	for _, g := range x.guests {
		changed := map[int]bool{}
		for k := range g.changed {
			changed[k] = true
		}
		l = append(l, &guest{cluster: g.cluster, own: slices.Clone(g.own), changed: changed, shot: slices.Clone(g.shot)})
	}
	return l
}
