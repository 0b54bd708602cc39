package image_test

import (
	"fmt"
	"testing"

	"matryoshka/api"
	"matryoshka/disk"
	"matryoshka/image"
)

// 17: a nil image returns ErrNone and zero values, whatever is handed in.
func TestNoImage(t *testing.T) {
	var i *image.Image
	for _, k := range append([]int{0, 1}, farNumbers...) {
		for _, shot := range []string{"", "s"} {
			checkOwn(t, "no image", i, shot, k, nil, 0, api.ErrNone)
		}
		for _, b := range [][]byte{nil, c("a"), make([]byte, 17)} {
			want(t, "Put", i.Put(k, b), api.ErrNone)
		}
		want(t, "Zero, Clear, Resize", []api.Errno{i.Zero(k), i.Clear(k), i.Resize(k)}, []api.Errno{api.ErrNone, api.ErrNone, api.ErrNone})
	}
	for _, m := range append(invalidMetas(api.Meta{Size: 16}), api.Meta{}, everything()) {
		want(t, "Turn", i.Turn(m), api.ErrNone)
	}
	want(t, "Flush", i.Flush(), api.ErrNone)
	want(t, "Meta, Changed, Shared", fmt.Sprintf("%+v %v %d", i.Meta(), i.Changed(), i.Shared()), fmt.Sprintf("%+v %v %d", api.Meta{}, false, 0))
}

// fallen is an image on a disk whose power is off; it has been changed or not, and its file is there or not.
func fallen(t *testing.T, changed, there bool) (*disk.Disk, *image.Image) {
	t.Helper()
	d, i := created(t, 0, 8)
	must(t, "Put", i.Put(0, c("a")), i.Put(1, c("a")), i.Put(2, c("b")))
	takeShot(t, i, "s")
	must(t, "Flush, Own", i.Flush(), ownErrno(i, "", 0))
	if changed {
		must(t, "Put", i.Put(3, c("d")))
	}
	if !there {
		must(t, "Remove", d.Remove("f"))
	}
	must(t, "disk.Create", d.Create("g"))
	d.Power(1)
	want(t, "a write without power", d.Write("g", 0, make([]byte, 16)), api.ErrDead)
	return d, i
}

// 17: while the power is off, Own, Put and Flush return ErrDead, ahead of every other error, and change nothing.
func TestWithoutPower(t *testing.T) {
	for n := range 4 {
		changed, there := n%2 == 1, n/2 == 0
		d, i := fallen(t, changed, there)
		before := fmt.Sprintf("%+v %d", i.Meta(), i.Shared())
		for _, k := range append([]int{0, 1, 2, 3, 7, 8}, farNumbers...) {
			for _, shot := range []string{"", "s", "t", "?"} {
				checkOwn(t, "without power", i, shot, k, nil, 0, api.ErrDead)
			}
			for _, b := range [][]byte{nil, c("a"), c("e"), make([]byte, 16), make([]byte, 17)} {
				want(t, "Put", i.Put(k, b), api.ErrDead)
			}
			want(t, "Flush", i.Flush(), api.ErrDead)
		}
		want(t, "Changed", i.Changed(), changed)
		want(t, "the meta", fmt.Sprintf("%+v %d", i.Meta(), i.Shared()), before)
		if !there || changed {
			continue
		}
		d.Crash(nil)
		must(t, "with power again", i.Put(3, c("a")), i.Put(4, c("e")), i.Flush())
		want(t, "what is stored", lasting(opened(t, d)), lasting(i))
		want(t, "what was known", i.Shared(), 5)
	}
}

// 17: Meta, Changed, Shared, Turn, Zero, Clear and Resize do without power what they do with it.
func TestWhatNeedsNoPower(t *testing.T) {
	for n := range 4 {
		_, i := fallen(t, n%2 == 1, n/2 == 0)
		m := i.Meta()
		want(t, "Shared", i.Shared(), 4)
		m.Back = "base"
		want(t, "Turn", []api.Errno{i.Turn(m), i.Turn(api.Meta{Size: -1})}, []api.Errno{api.OK, api.ErrArg})
		want(t, "Changed", i.Changed(), true)
		want(t, "Zero", []api.Errno{i.Zero(0), i.Zero(8)}, []api.Errno{api.OK, api.ErrRange})
		want(t, "Clear", []api.Errno{i.Clear(2), i.Clear(-1)}, []api.Errno{api.OK, api.ErrRange})
		want(t, "Resize", []api.Errno{i.Resize(10), i.Resize(-1)}, []api.Errno{api.OK, api.ErrArg})
		zero := api.Entry{Kind: api.EntryZero}
		l := []api.Entry{zero, raw(4, c("a")), {}, {}, 8: zero, 9: zero}
		if n%2 == 1 {
			l[3] = entryAt(i, 3)
			want(t, "the entry of cluster 3", l[3].Kind, api.EntryRaw)
		}
		m = i.Meta()
		want(t, "the state", fmt.Sprintf("%+v %d %s", m.T, m.Size, m.Back), fmt.Sprintf("%+v %d %s", tableOf(l...), 10, "base"))
	}
}

// R1: no call panics, whatever is handed in.
func TestNoCallPanics(t *testing.T) {
	numbers := append([]int{0, 1, 2, 6, 64, 4096}, farNumbers...)
	for _, a := range numbers {
		for _, b := range numbers {
			for _, name := range []string{"f", "", "\xff"} {
				image.Create(nil, name, a, b, "")
				image.Open(nil, name)
				d := diskOf(t, 20)
				i, _ := image.Create(d, name, a, b, name)
				j, _ := image.Open(d, name)
				for _, x := range []*image.Image{i, j} {
					x.Own(name, a)
					x.Put(b, make([]byte, 16))
					x.Put(a, []byte(name))
					x.Zero(a)
					x.Clear(b)
					x.Turn(api.Meta{Cluster: a, Size: b, Counts: []int{a, b}})
					x.Turn(api.Meta{Size: 8, T: tableOf(api.Entry{Kind: a, Start: b, Count: a, Size: b})})
					x.Turn(api.Meta{Size: 8, Shots: []api.Shot{{Name: name, Size: b, T: api.Table{L: [][]api.Entry{{{Kind: b}}, nil, {}}}}}, Maps: []api.Bitmap{{Name: name, L: []api.Span{{From: a, To: b}}}}})
					x.Resize(a)
					x.Flush()
					x.Meta()
					x.Shared()
					x.Changed()
				}
			}
		}
	}
}

// R1: a file may hold any state that is stored as such, also one whose entries are in each other's way and in that of its
// blob; every call on its image returns.
func TestAnyState(t *testing.T) {
	for start := range 60 {
		e := func(start int) api.Entry { return api.Entry{Kind: api.EntryRaw, Start: start + 2, Count: 2} }
		m := api.Meta{Cluster: 1, Size: 16, T: tableOf(e(start), e(start), e(start+1), e(40)), Shots: []api.Shot{{Name: "s", Size: 4, T: tableOf(e(start+2), e(2))}}}
		d := laid(t, m, 70, 3, 1<<31-1)
		i := opened(t, d)
		shown(i, "")
		shown(i, "s")
		must(t, "Put, Clear, Flush", i.Put(5, big(1, 1)), i.Clear(1), i.Flush())
		want(t, "what is stored", lasting(opened(t, d)), lasting(i))
		must(t, "Put", i.Put(6, big(1, 2)))
		want(t, "the greatest Seq", i.Flush(), api.ErrArg)
	}
}
