package disk

import (
	"fmt"
	"math"
	"slices"
	"strings"
	"sync"
	"testing"

	"matryoshka/api"
)

// sectors is one sector for each letter of a text: the letter, and what is found at no other place of a sector.
// A point is a sector of zeros.
func sectors(text string) []byte {
	var b []byte
	for _, letter := range []byte(text) {
		sector := make([]byte, api.Sector)
		if letter != '.' {
			for k := range sector {
				sector[k] = letter + byte(k)
			}
		}
		b = append(b, sector...)
	}
	return b
}

// letters is the text whose sectors b is; what is none of them is a question mark.
func letters(b []byte) string {
	text := ""
	for ; len(b) >= api.Sector; b = b[api.Sector:] {
		letter := "?"
		for _, c := range []string{".", string(rune(b[0]))} {
			if string(sectors(c)) == string(b[:api.Sector]) {
				letter = c
			}
		}
		text += letter
	}
	if len(b) > 0 {
		text += "?"
	}
	return text
}

// made is a disk with files of one sector for each letter, all flushed: "a=xyz", "b=".
func made(t *testing.T, room int, files ...string) *Disk {
	t.Helper()
	d, errno := New(room)
	must(t, errno)
	for _, f := range files {
		name, text, _ := strings.Cut(f, "=")
		must(t, d.Create(name))
		must(t, d.Write(name, 0, sectors(text)))
		must(t, d.Flush(name))
	}
	return d
}

func must(t *testing.T, errno api.Errno) {
	t.Helper()
	if errno != api.OK {
		t.Fatalf("error %d", errno)
	}
}

func want(t *testing.T, what string, got, want any) {
	t.Helper()
	if fmt.Sprint(got) != fmt.Sprint(want) {
		t.Errorf("%s: %v, want %v", what, got, want)
	}
}

// hasPower tells whether the power is on.
func hasPower(d *Disk) bool {
	return d.Flush("no such file, as no name is so long") != api.ErrDead
}

// contents is what the files show: "a=xyz b=". Without power they are shown as they would be with it.
func contents(d *Disk) string {
	lit := d.Copy()
	lit.dead = false
	var l []string
	for _, name := range d.List() {
		n, _ := d.Size(name)
		b, errno := lit.Read(name, 0, n)
		if errno != api.OK {
			return fmt.Sprint("error ", errno)
		}
		l = append(l, name+"="+letters(b))
	}
	return strings.Join(l, " ")
}

// behindCrash is what the files show behind a crash, which d itself is spared.
func behindCrash(d *Disk, picks ...bool) string {
	c := d.Copy()
	c.Crash(picks)
	return contents(c)
}

// state is all that later calls could observe of a small disk.
func state(d *Disk) string {
	s := fmt.Sprint(d.Used(), hasPower(d), " ", contents(d))
	for _, picks := range [][]bool{nil, {true}, {false, true}, {true, false, true}, slices.Repeat([]bool{true}, 99)} {
		s += "; " + behindCrash(d, picks...)
	}
	c := d.Copy()
	for range 9 {
		for _, name := range c.List() {
			s += fmt.Sprint(" ", c.Write(name, 0, sectors("w")))
		}
	}
	return s
}

// 5.1
func TestNewHasItsRoom(t *testing.T) {
	for _, c := range []struct {
		room  int
		errno api.Errno
	}{
		{math.MinInt, api.ErrArg}, {-1, api.ErrArg}, {0, api.ErrArg}, {1, api.OK}, {2, api.OK},
		{api.MaxCap - 1, api.OK}, {api.MaxCap, api.OK}, {api.MaxCap + 1, api.ErrArg}, {math.MaxInt, api.ErrArg},
	} {
		d, errno := New(c.room)
		if errno != c.errno || (d != nil) != (errno == api.OK) {
			t.Errorf("New(%d): %v, %d", c.room, d, errno)
		}
		if d != nil && (d.Used() != 0 || len(d.List()) != 0 || !hasPower(d)) {
			t.Errorf("New(%d) is not empty", c.room)
		}
	}
}

// 5.1, 5.2: the greatest disk, all of its room taken by files of the greatest size.
func TestTheWholeRoomCanBeTaken(t *testing.T) {
	d, errno := New(api.MaxCap)
	must(t, errno)
	b := make([]byte, api.MaxFile*api.Sector)
	b[0], b[len(b)-1] = 1, 2
	for k := range api.MaxCap / api.MaxFile {
		must(t, d.Create(fmt.Sprint("f", k)))
		must(t, d.Write(fmt.Sprint("f", k), 0, b))
	}
	want(t, "all room", d.Used(), api.MaxCap)
	must(t, d.Create("g"))
	want(t, "one sector more", d.Write("g", 0, sectors("x")), api.ErrSpace)
	for k := range api.MaxCap / api.MaxFile {
		got, errno := d.Read(fmt.Sprint("f", k), 0, api.MaxFile)
		if errno != api.OK || !slices.Equal(got, b) {
			t.Fatalf("file %d: error %d", k, errno)
		}
	}
	picks := make([]bool, api.MaxCap)
	picks[0], picks[api.MaxFile], picks[api.MaxCap-1] = true, true, true
	d.Crash(picks)
	sizes := ""
	for _, name := range d.List() {
		n, _ := d.Size(name)
		sizes += fmt.Sprint(name, " ", n, ", ")
	}
	want(t, "behind a crash", sizes, "f0 1, f1 1, f10 0, f11 0, f12 0, f13 0, f14 0, f15 65536, f2 0, f3 0, f4 0, f5 0, "+
		"f6 0, f7 0, f8 0, f9 0, g 0, ")
	last, _ := d.Read("f15", api.MaxFile-2, 2)
	want(t, "its last sectors", last, b[len(b)-2*api.Sector:])
	want(t, "room again", d.Write("g", 0, sectors("x")), api.OK)
}

// 5.1
func TestCreateNeedsAName(t *testing.T) {
	for _, c := range []struct {
		name  string
		errno api.Errno
	}{
		{"", api.ErrArg}, {"a", api.OK}, {"\x00", api.OK}, {"\xff\xfe", api.OK}, {" ", api.OK},
		{strings.Repeat("n", api.MaxName), api.OK}, {strings.Repeat("n", api.MaxName+1), api.ErrArg},
		{strings.Repeat("é", api.MaxName/2), api.OK}, {strings.Repeat("é", api.MaxName/2) + "n", api.ErrArg},
	} {
		d := made(t, 9, "z=z")
		before := state(d)
		want(t, fmt.Sprintf("Create(%q)", c.name), d.Create(c.name), c.errno)
		if c.errno != api.OK {
			want(t, fmt.Sprintf("behind Create(%q)", c.name), state(d), before)
			continue
		}
		n, errno := d.Size(c.name)
		if n != 0 || errno != api.OK || len(d.List()) != 2 || !slices.Contains(d.List(), c.name) {
			t.Errorf("behind Create(%q): %d, %d, %q", c.name, n, errno, d.List())
		}
	}
}

// 5.1
func TestCreateEmptiesTheFileOfItsName(t *testing.T) {
	d := made(t, 5, "a=xyz", "b=p")
	must(t, d.Write("a", 3, sectors("w")))
	want(t, "no room", d.Write("b", 1, sectors("q")), api.ErrSpace)
	must(t, d.Create("a"))
	want(t, "made anew", contents(d), "a= b=p")
	want(t, "used", d.Used(), 1)
	want(t, "its writes are gone", behindCrash(d, true), "a= b=p")
	must(t, d.Write("b", 1, sectors("qrst")))
	want(t, "the room is free", contents(d), "a= b=pqrst")
}

// 5.1
func TestThereAreAtMostMaxFiles(t *testing.T) {
	d := made(t, 99)
	for k := range api.MaxFiles {
		must(t, d.Create(fmt.Sprint(k)))
		must(t, d.Write(fmt.Sprint(k), 0, sectors("x")))
	}
	before := state(d)
	want(t, "one more", d.Create("one more"), api.ErrMany)
	want(t, "an empty name ahead of too many", d.Create(""), api.ErrArg)
	want(t, "a long name ahead of too many", d.Create(strings.Repeat("n", api.MaxName+1)), api.ErrArg)
	want(t, "behind them", state(d), before)
	must(t, d.Create("7"))
	want(t, "one of them anew", d.Used(), api.MaxFiles-1)
	must(t, d.Remove("7"))
	must(t, d.Create("one more"))
	want(t, "in its stead", len(d.List()), api.MaxFiles)
	want(t, "none is there any more", d.Create("7"), api.ErrMany)
}

// 5.1
func TestRemove(t *testing.T) {
	d := made(t, 5, "a=xyz", "b=p", "c=q")
	for _, name := range []string{"", "d", "A", "aa", strings.Repeat("n", api.MaxName+1)} {
		before := state(d)
		want(t, fmt.Sprintf("Remove(%q)", name), d.Remove(name), api.ErrName)
		want(t, fmt.Sprintf("behind Remove(%q)", name), state(d), before)
	}
	must(t, d.Remove("a"))
	want(t, "removed", contents(d), "b=p c=q")
	want(t, "used", d.Used(), 2)
	want(t, "once more", d.Remove("a"), api.ErrName)
	_, errno := d.Size("a")
	want(t, "its size", errno, api.ErrName)
	must(t, d.Write("c", 1, sectors("rst")))
	must(t, d.Remove("c"))
	must(t, d.Remove("b"))
	want(t, "none", len(d.List())+d.Used(), 0)
}

// 5.1
func TestCreateAndRemoveTakeEffectAtOnce(t *testing.T) {
	d := made(t, 9, "a=x", "b=y", "c=z")
	must(t, d.Create("d"))
	must(t, d.Create("b"))
	must(t, d.Remove("a"))
	want(t, "a crash does not undo them", behindCrash(d), "b= c=z d=")
}

// 5.1, R6
func TestListAscends(t *testing.T) {
	names := []string{"\x00", "\x00a", " ", "10", "2", "A", "Z", "a", "a\x00", "aa", "ab", "b", "é", "\xff"}
	for shift := range len(names) {
		for _, step := range []int{1, 3, 5, 9, 13} {
			d := made(t, 9)
			for k := range names {
				must(t, d.Create(names[(shift+k*step)%len(names)]))
			}
			want(t, "names", fmt.Sprintf("%q", d.List()), fmt.Sprintf("%q", names))
			for _, name := range names {
				if _, errno := d.Size(name); errno != api.OK {
					t.Errorf("%q is not found", name)
				}
			}
		}
	}
}

// 5.1
func TestSizeAndUsedFollow(t *testing.T) {
	d := made(t, 20, "a=", "b=")
	for i, c := range []struct {
		do         func() api.Errno
		a, b, used int
	}{
		{func() api.Errno { return d.Write("a", 0, sectors("xyz")) }, 3, 0, 3},
		{func() api.Errno { return d.Write("b", 4, sectors("p")) }, 3, 5, 8},
		{func() api.Errno { return d.Write("a", 1, sectors("q")) }, 3, 5, 8},
		{func() api.Errno { return d.Write("a", 2, sectors("qrs")) }, 5, 5, 10},
		{func() api.Errno { return d.Flush("a") }, 5, 5, 10},
		{func() api.Errno { return d.Cut("b", 1) }, 5, 1, 6},
		{func() api.Errno { return d.Cut("a", 0) }, 0, 1, 1},
		{func() api.Errno { return d.Create("b") }, 0, 0, 0},
		{func() api.Errno { return d.Write("b", 19, sectors("x")) }, 0, 20, 20},
	} {
		must(t, c.do())
		a, e := d.Size("a")
		b, f := d.Size("b")
		if a != c.a || b != c.b || e != api.OK || f != api.OK || d.Used() != c.used {
			t.Errorf("step %d: %d, %d, %d", i, a, b, d.Used())
		}
	}
	for _, name := range []string{"", "c", "A"} {
		n, errno := d.Size(name)
		want(t, fmt.Sprintf("Size(%q)", name), fmt.Sprint(n, errno), fmt.Sprint(0, api.ErrName))
	}
}

// 5: a nil disk
func TestNilDisk(t *testing.T) {
	var d *Disk
	n, errno := d.Size("a")
	want(t, "Size", fmt.Sprint(n, errno), fmt.Sprint(0, api.ErrNone))
	b, errno := d.Read("a", 0, 1)
	want(t, "Read", fmt.Sprint(b == nil, errno), fmt.Sprint(true, api.ErrNone))
	want(t, "Create", d.Create(""), api.ErrNone)
	want(t, "Remove", d.Remove("a"), api.ErrNone)
	want(t, "Write", d.Write("a", -1, []byte{1}), api.ErrNone)
	want(t, "Cut", d.Cut("a", -1), api.ErrNone)
	want(t, "Flush", d.Flush("a"), api.ErrNone)
	want(t, "Used", d.Used(), 0)
	d.Power(1)
	d.Crash([]bool{true})
	if len(d.List()) != 0 || d.Copy() != nil {
		t.Error("List or Copy")
	}
}

// R1: a disk that New has not made is none that panics.
func TestDiskOfNoOneDoesNotPanic(t *testing.T) {
	d := new(Disk)
	must(t, d.Create("a"))
	want(t, "Write", d.Write("a", 0, sectors("x")), api.ErrSpace)
	must(t, d.Write("a", 0, nil))
	must(t, d.Cut("a", 0))
	must(t, d.Flush("a"))
	d.Power(1)
	d.Crash(nil)
	want(t, "Copy", contents(d.Copy()), "a=")
	must(t, d.Remove("a"))
}

// R3
func TestArgumentsStandAsTheyWere(t *testing.T) {
	d := made(t, 9, "a=x")
	b := append(sectors("yz"), "beyond"...)
	kept := slices.Clone(b)
	must(t, d.Write("a", 0, b[:2*api.Sector]))
	picks := []bool{true, false, true, true}
	d.Crash(picks[:2])
	want(t, "b", b, kept)
	want(t, "picks", picks, []bool{true, false, true, true})
}

// R3
func TestArgumentsAreNotKept(t *testing.T) {
	d := made(t, 9, "a=x")
	b := sectors("yz")
	must(t, d.Write("a", 0, b))
	picks := []bool{true, true}
	clear(b)
	want(t, "b", contents(d), "a=yz")
	want(t, "b behind a crash", behindCrash(d, picks...), "a=yz")
	d.Crash(picks)
	clear(picks)
	want(t, "picks", contents(d), "a=yz")
	d.Crash(nil)
	want(t, "picks, later", contents(d), "a=yz")
}

// R3
func TestResultsAreNewMemory(t *testing.T) {
	d := made(t, 20, "a=xyz", "b=", "c=q")
	must(t, d.Cut("a", 2))
	must(t, d.Write("a", 1, sectors("w")))
	before := state(d)
	for _, c := range []struct{ at, n int }{{0, 2}, {0, 1}, {1, 1}, {0, 0}, {1, 0}, {2, 0}} {
		b, errno := d.Read("a", c.at, c.n)
		must(t, errno)
		other, _ := d.Read("a", c.at, c.n)
		kept := string(other)
		scribble(b, byte(77))
		want(t, "another result", string(other), kept)
	}
	scribble(d.List(), "other")
	want(t, "behind it", state(d), before)
	d.Crash(nil)
	c := d.Copy()
	b, _ := d.Read("a", 0, 2)
	scribble(b, byte(77))
	want(t, "behind a crash", contents(d), "a=xy b= c=q")
	want(t, "a copy", contents(c), "a=xy b= c=q")
}

// scribble writes over all of l, and over its spare capacity.
func scribble[T any](l []T, with T) {
	l = l[:cap(l)]
	for k := range l {
		l[k] = with
	}
}

// R3
func TestNilIsEmpty(t *testing.T) {
	d := made(t, 9, "a=xyz")
	must(t, d.Write("a", 1, sectors("w")))
	e := d.Copy()
	must(t, d.Write("a", 0, nil))
	must(t, e.Write("a", 0, []byte{}))
	want(t, "b", state(d), state(e))
	d.Crash(nil)
	e.Crash([]bool{})
	want(t, "picks", state(d), state(e))
}

// R1, R5: disks of the same calls are the same, and share nothing.
func TestDisksShareNothing(t *testing.T) {
	var all sync.WaitGroup
	shown := make([]string, 8)
	d := made(t, 40, "a=xyz", "b=")
	for k := range shown {
		c := d.Copy()
		all.Go(func() {
			for i := range 50 {
				c.Write("a", i%7, sectors("pq"))
				c.Write("b", i%5, sectors("r"))
				c.Cut("a", 3)
				c.Power(9)
				c.Crash([]bool{true, i%2 == 0, i%3 == 0})
				c.Create("c")
			}
			shown[k] = state(c)
		})
	}
	all.Wait()
	for k := range shown {
		want(t, "a disk", shown[k], shown[0])
	}
	want(t, "what they are from", contents(d), "a=xyz b=")
}
