package image_test

import (
	"fmt"
	"strings"
	"testing"

	"matryoshka/api"
	"matryoshka/disk"
	"matryoshka/file"
	"matryoshka/image"
)

// 17.1: a new image has what was handed in, and nothing else; that is flushed.
func TestCreate(t *testing.T) {
	for _, x := range []struct {
		name          string
		cluster, size int
		back          string
	}{
		{"f", 0, 0, ""}, {"f", 0, 1, ""}, {"f", 0, 4096, "base"}, {"f", 3, 8, ""}, {"f", 3, 24, "f"}, {"f", 6, 0, "0123456789abcdef"},
		{"f", 6, 64, ""}, {"f", 6, 4096, "-_."}, {"0123456789-_.xyz", 1, 4, ""}, {".", 0, 2, "."},
	} {
		d := diskOf(t, room)
		i, errno := image.Create(d, x.name, x.cluster, x.size, x.back)
		what := fmt.Sprint("Create of ", x)
		want(t, what, errno, api.OK)
		sectors, _ := d.Size(x.name)
		counts := append([]int{1, 1}, make([]int, sectors-2)...)
		want(t, what, i.Meta(), api.Meta{Cluster: x.cluster, Size: x.size, Back: x.back, Counts: counts})
		want(t, what, fmt.Sprint(i.Changed(), i.Shared(), d.List()), fmt.Sprint(false, 0, []string{x.name}))
		for k := range x.size >> x.cluster {
			b, kind, errno := i.Own("", k)
			want(t, what, fmt.Sprint(b, kind, errno), fmt.Sprint(make([]byte, 16<<x.cluster), api.EntryNone, api.OK))
		}
		_, _, errno = i.Own("", x.size>>x.cluster)
		want(t, what+": Own beyond its clusters", errno, api.ErrRange)

		d.Crash(nil)
		after, errno := image.Open(d, x.name)
		want(t, what+": Open after a crash", errno, api.OK)
		want(t, what+": after a crash", state(after), state(i))
		m, s, errno := file.Load(d, x.name)
		want(t, what+": what is stored", fmt.Sprintf("%+v %d", m, errno), fmt.Sprintf("%+v %d", i.Meta(), api.OK))
		want(t, what+": where", fmt.Sprint(s.Seq, s.Start), fmt.Sprint(1, 2))
	}
}

// checkNoImage is that a call returns an error, and no image beside it.
func checkNoImage(t *testing.T, what string, i *image.Image, errno, wanted api.Errno) {
	t.Helper()
	want(t, what, errno, wanted)
	want(t, what+": an image", i == nil, true)
}

// badCreate is arguments of Create of which one may not be.
type badCreate struct {
	name          string
	cluster, size int
	back          string
}

func badCreates() []badCreate {
	l := []badCreate{
		{"", 0, 1, ""}, {"A", 0, 1, ""}, {"a b", 0, 1, ""}, {"ä", 0, 1, ""}, {"0123456789abcdefg", 0, 1, ""}, {"a\x00", 0, 1, ""}, {strings.Repeat("a", 1<<16), 0, 1, ""},
		{"f", 7, 0, ""}, {"f", 7, 128, ""}, {"f", 64, 0, ""}, {"f", 63, 0, ""},
		{"f", 1, 1, ""}, {"f", 1, 4095, ""}, {"f", 6, 32, ""}, {"f", 6, 4095, ""}, {"f", 6, 63, ""}, {"f", 6, 65, ""},
		{"f", 1, 4098, ""}, {"f", 6, 4160, ""}, {"f", 1, -2, ""}, {"f", 6, -64, ""},
		{"f", 0, 1, "A"}, {"f", 0, 1, " "}, {"f", 0, 1, "0123456789abcdefg"}, {"f", 0, 1, "\x00"}, {"f", 0, 1, strings.Repeat("b", 1<<16)},
	}
	for _, n := range farNumbers {
		l = append(l, badCreate{"f", n, 0, ""}, badCreate{"f", 0, n, ""}, badCreate{"f", n, n, ""})
	}
	return l
}

// 17.1: ErrArg, with which nothing is created, and nothing that is there goes.
func TestCreateOfWrongArguments(t *testing.T) {
	for _, x := range badCreates() {
		d, i := created(t, 0, 4)
		must(t, "Put, Flush", i.Put(1, c("x")), i.Flush())
		checkKeeps(t, fmt.Sprintf("Create of %.100q", fmt.Sprint(x)), d, i, api.ErrArg, func() api.Errno {
			j, errno := image.Create(d, x.name, x.cluster, x.size, x.back)
			checkNoImage(t, "Create", j, errno, api.ErrArg)
			return errno
		})
	}
}

// full is a disk that has as many files as it may have.
func full(t *testing.T, room int) *disk.Disk {
	t.Helper()
	d := diskOf(t, room)
	for n := range api.MaxFiles {
		must(t, "disk.Create", d.Create(fmt.Sprint("file", n)))
	}
	return d
}

// dead is a disk whose power is off, with a file.
func dead(t *testing.T) *disk.Disk {
	t.Helper()
	d := diskOf(t, room)
	must(t, "disk.Create", d.Create("f"))
	turnOff(t, d)
	return d
}

// turnOff lets the power fail, by a write to f that is not made.
func turnOff(t *testing.T, d *disk.Disk) {
	t.Helper()
	d.Power(1)
	want(t, "a write without power", d.Write("f", 0, make([]byte, 16)), api.ErrDead)
}

// 17.1: the error of disk.Create, behind ErrArg.
func TestCreateRefusedByTheDisk(t *testing.T) {
	for _, x := range []struct {
		what  string
		disk  func() *disk.Disk
		errno api.Errno
	}{
		{"no disk", func() *disk.Disk { return nil }, api.ErrNone},
		{"no power", func() *disk.Disk { return dead(t) }, api.ErrDead},
		{"many files", func() *disk.Disk { return full(t, room) }, api.ErrMany},
		{"many files, and no room", func() *disk.Disk { return full(t, 1) }, api.ErrMany},
	} {
		d := x.disk()
		files := fmt.Sprint(d.List())
		i, errno := image.Create(d, "f", 0, 4, "")
		checkNoImage(t, x.what, i, errno, x.errno)
		for _, bad := range badCreates() {
			i, errno := image.Create(d, bad.name, bad.cluster, bad.size, bad.back)
			checkNoImage(t, x.what+", and a wrong argument", i, errno, api.ErrArg)
		}
		want(t, x.what+": the files", fmt.Sprint(d.List()), files)
	}
	i, errno := image.Create(full(t, room), "file7", 0, 4, "")
	want(t, "in the place of one of many files", fmt.Sprint(errno, i.Meta().Size), fmt.Sprint(api.OK, 4))
}

// 17.1: the errors of file.Save; the file is removed then.
func TestCreateWithoutRoom(t *testing.T) {
	// The slots, and a blob of 21 bytes.
	for room := 1; room < 8; room++ {
		d := diskOf(t, room)
		i, errno := image.Create(d, "f", 0, 4, "")
		if room >= 4 {
			want(t, "with room enough", fmt.Sprint(errno, i.Meta().Size), fmt.Sprint(api.OK, 4))
			continue
		}
		checkNoImage(t, fmt.Sprint("room ", room), i, errno, api.ErrSpace)
		want(t, fmt.Sprint("the files with room ", room), fmt.Sprint(d.List(), d.Used()), "[] 0")
	}
	d := diskOf(t, 6)
	must(t, "disk.Create", d.Create("f"), d.Create("g"), d.Write("f", 0, make([]byte, 32)), d.Write("g", 0, make([]byte, 48)))
	i, errno := image.Create(d, "f", 0, 4, "")
	checkNoImage(t, "beside another file", i, errno, api.ErrSpace)
	want(t, "the files", fmt.Sprint(d.List(), d.Used()), "[g] 3")
}

// 17.1: while the power is off the file can't be removed; it holds no image.
func TestCreateWhenThePowerFails(t *testing.T) {
	for n := 1; n <= 3; n++ {
		for bits := range 8 {
			d := diskOf(t, room)
			d.Power(n)
			i, errno := image.Create(d, "f", 0, 4, "")
			checkNoImage(t, fmt.Sprint("power ", n), i, errno, api.ErrDead)
			want(t, "the files", fmt.Sprint(d.List()), "[f]")
			d.Crash(picksOf(bits, 3))
			i, errno = image.Open(d, "f")
			checkNoImage(t, "Open", i, errno, api.ErrForm)
		}
	}
	d := diskOf(t, room)
	d.Power(4)
	_, errno := image.Create(d, "f", 0, 4, "")
	want(t, "all of its writes", errno, api.OK)
	want(t, "the next write", d.Write("f", 0, make([]byte, 16)), api.ErrDead)
}

// 17.1, 5.1: a file of that name that was there is replaced.
func TestCreateInThePlaceOfAnImage(t *testing.T) {
	d, i := created(t, 0, 8)
	must(t, "Put, Flush", i.Put(1, c("x")), i.Flush(), i.Put(2, c("y")), i.Flush())
	j, errno := image.Create(d, "f", 1, 4, "base")
	want(t, "Create", errno, api.OK)
	want(t, "the new one", j.Meta(), api.Meta{Cluster: 1, Size: 4, Back: "base", Counts: []int{1, 1, 0, 0}})
	d.Crash(nil)
	want(t, "after a crash", state(opened(t, d)), state(j))
}

// 17.1: the errors of file.Load.
func TestOpenOfNoImage(t *testing.T) {
	d, _ := created(t, 0, 4)
	must(t, "disk.Create", d.Create("empty"), d.Create("zeros"), d.Write("zeros", 0, make([]byte, 160)))
	for _, x := range []struct {
		name  string
		errno api.Errno
	}{{"", api.ErrName}, {"A", api.ErrName}, {"g", api.ErrName}, {strings.Repeat("f", 1<<16), api.ErrName}, {"empty", api.ErrForm}, {"zeros", api.ErrForm}} {
		i, errno := image.Open(d, x.name)
		checkNoImage(t, "Open of "+x.name, i, errno, x.errno)
	}
	turnOff(t, d)
	for _, name := range []string{"f", "empty"} {
		i, errno := image.Open(d, name)
		checkNoImage(t, "Open without power", i, errno, api.ErrDead)
	}
	i, errno := image.Open(d, "g")
	checkNoImage(t, "Open of no file without power", i, errno, api.ErrName)
	i, errno = image.Open(nil, "f")
	checkNoImage(t, "Open of no disk", i, errno, api.ErrNone)
}

// everything is a meta that has every part, with entries in the sectors 70 to 89, and a blob of less than 60.
func everything() api.Meta {
	raw := func(start int) api.Entry { return api.Entry{Kind: api.EntryRaw, Start: start, Count: 2, Sum: 7} }
	packed := api.Entry{Kind: api.EntryPacked, Start: 76, Count: 1, Size: 9, Sum: 1 << 31}
	zero := api.Entry{Kind: api.EntryZero}
	return api.Meta{
		Cluster: 1, Size: 40, Back: "base", T: tableOf([]api.Entry{raw(70), {}, zero, raw(72), packed, 9: zero, 19: raw(70)}...),
		Shots: []api.Shot{{Name: "one", Size: 8, T: tableOf(raw(78), packed)}, {Name: "two", Size: 0}, {Name: "base", Size: 80, T: tableOf([]api.Entry{zero, 39: raw(88)}...)}},
		Maps:  []api.Bitmap{{Name: "one", On: true, L: []api.Span{{From: 3, To: 5}, {From: 9, To: 4096}}}, {Name: "off", L: []api.Span{{From: 0, To: 1}}}},
	}
}

// 17.1: Open returns the state that is stored, whole.
func TestOpen(t *testing.T) {
	for _, m := range []api.Meta{{}, {Cluster: 6, Size: 4096, Back: "b"}, everything()} {
		for _, sectors := range []int{90, 91, 120} {
			d := laid(t, m, sectors, 3, 12)
			i := opened(t, d)
			m.Counts = countsOf(m, sectors)
			want(t, "the meta", i.Meta(), m)
			want(t, "Changed", i.Changed(), false)
		}
	}
	i := opened(t, laid(t, everything(), 90, 3, 12))
	want(t, "Shared", i.Shared(), 2)
	// A file whose Counts are others than those that the entries give.
	m := everything()
	m.Counts = []int{9, 9, 9}
	i = opened(t, laid(t, m, 90, 3, 12))
	want(t, "the counts", i.Meta().Counts, countsOf(everything(), 90))
}

// countsOf are the counts of 9.2.
func countsOf(m api.Meta, size int) []int {
	counts := make([]int, size)
	copy(counts, []int{1, 1})
	for _, e := range entriesOf(m) {
		for sector := e.Start; sector < min(e.Start+e.Count, size); sector++ {
			counts[sector]++
		}
	}
	return counts
}

// entriesOf are the entries of a meta that occupy sectors.
func entriesOf(m api.Meta) []api.Entry {
	var l []api.Entry
	tables := []api.Table{m.T}
	for _, s := range m.Shots {
		tables = append(tables, s.T)
	}
	for _, x := range tables {
		for _, leaf := range x.L {
			for _, e := range leaf {
				if e.Kind >= api.EntryRaw {
					l = append(l, e)
				}
			}
		}
	}
	return l
}
