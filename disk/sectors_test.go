package disk

import (
	"fmt"
	"math"
	"strings"
	"testing"

	"matryoshka/api"
)

// 5.2
func TestRead(t *testing.T) {
	d := made(t, 9, "a=xyz", "b=")
	for _, c := range []struct {
		name  string
		at, n int
		text  string
		errno api.Errno
	}{
		{"a", 0, 3, "xyz", api.OK}, {"a", 0, 2, "xy", api.OK}, {"a", 1, 1, "y", api.OK}, {"a", 2, 1, "z", api.OK},
		{"a", 1, 2, "yz", api.OK}, {"a", 0, 0, "", api.OK}, {"a", 2, 0, "", api.OK}, {"a", 3, 0, "", api.OK},
		{"a", 4, 0, "", api.ErrRange}, {"a", 0, 4, "", api.ErrRange}, {"a", 1, 3, "", api.ErrRange},
		{"a", 3, 1, "", api.ErrRange}, {"a", 4, -1, "", api.ErrRange}, {"a", -1, 1, "", api.ErrRange},
		{"a", -1, 0, "", api.ErrRange}, {"a", 3, -1, "", api.ErrRange}, {"a", -1, -1, "", api.ErrRange},
		{"a", math.MaxInt, 0, "", api.ErrRange}, {"a", 0, math.MaxInt, "", api.ErrRange},
		{"a", 2, math.MaxInt, "", api.ErrRange}, {"a", math.MaxInt, math.MaxInt, "", api.ErrRange},
		{"a", math.MaxInt, 1, "", api.ErrRange}, {"a", math.MaxInt / 16, math.MaxInt / 16, "", api.ErrRange},
		{"a", math.MinInt, math.MaxInt, "", api.ErrRange}, {"a", math.MinInt, math.MinInt, "", api.ErrRange},
		{"a", 0, math.MinInt, "", api.ErrRange}, {"a", 1 << 60, 1, "", api.ErrRange}, {"a", 0, 1 << 60, "", api.ErrRange},
		{"b", 0, 0, "", api.OK}, {"b", 0, 1, "", api.ErrRange}, {"b", 1, 0, "", api.ErrRange},
		{"c", 0, 0, "", api.ErrName}, {"c", -1, -1, "", api.ErrName}, {"", 0, 0, "", api.ErrName},
	} {
		b, errno := d.Read(c.name, c.at, c.n)
		if errno != c.errno || letters(b) != c.text || len(b) != len(c.text)*api.Sector {
			t.Errorf("Read(%q, %d, %d): %q, %d", c.name, c.at, c.n, letters(b), errno)
		}
	}
	want(t, "behind it", contents(d), "a=xyz b=")
}

// 5.2
func TestWrite(t *testing.T) {
	for _, c := range []struct {
		name  string
		at    int
		text  string
		shown string
	}{
		{"a", 0, "p", "a=pyz b="}, {"a", 1, "p", "a=xpz b="}, {"a", 2, "p", "a=xyp b="}, {"a", 0, "pqr", "a=pqr b="},
		{"a", 1, "pq", "a=xpq b="}, {"a", 2, "pq", "a=xypq b="}, {"a", 0, "pqrs", "a=pqrs b="},
		{"a", 3, "p", "a=xyzp b="}, {"a", 4, "p", "a=xyz.p b="}, {"a", 6, "pq", "a=xyz...pq b="},
		{"b", 0, "p", "a=xyz b=p"}, {"b", 2, "p", "a=xyz b=..p"}, {"a", 1, ".", "a=x.z b="},
		{"a", 0, "", "a=xyz b="}, {"a", 3, "", "a=xyz b="}, {"a", 4, "", "a=xyz b="}, {"b", 1, "", "a=xyz b="},
		{"a", api.MaxFile, "", "a=xyz b="}, {"a", api.MaxFile + 1, "", "a=xyz b="}, {"a", math.MaxInt, "", "a=xyz b="},
		{"b", 6, "p", "a=xyz b=......p"}, {"b", 0, "1234567", "a=xyz b=1234567"},
	} {
		d := made(t, 10, "a=xyz", "b=")
		want(t, fmt.Sprint("Write ", c.name, c.at, c.text), d.Write(c.name, c.at, sectors(c.text)), api.OK)
		want(t, fmt.Sprint("behind Write ", c.name, c.at, c.text), contents(d), c.shown)
		want(t, fmt.Sprint("behind a crash ", c.name, c.at, c.text), behindCrash(d), "a=xyz b=")
	}
}

// 5.2
func TestWriteErrors(t *testing.T) {
	d := made(t, 10, "a=xyz", "b=pq")
	for _, c := range []struct {
		name  string
		at    int
		b     []byte
		errno api.Errno
	}{
		{"c", 0, sectors("x"), api.ErrName}, {"", 0, nil, api.ErrName}, {"c", -1, []byte{1}, api.ErrName},
		{"c", math.MaxInt, sectors("x"), api.ErrName},
		{"a", 0, sectors("x")[:1], api.ErrArg}, {"a", 0, sectors("x")[:15], api.ErrArg},
		{"a", 0, sectors("xy")[:17], api.ErrArg}, {"a", -1, sectors("xy")[:31], api.ErrArg},
		{"a", api.MaxFile, []byte{1}, api.ErrArg},
		{"a", -1, sectors("x"), api.ErrRange}, {"a", -1, nil, api.ErrRange}, {"a", math.MinInt, sectors("x"), api.ErrRange},
		{"a", math.MinInt, nil, api.ErrRange}, {"a", -1, sectors("12345678901"), api.ErrRange},
		{"a", api.MaxFile, sectors("x"), api.ErrRange}, {"a", api.MaxFile - 1, sectors("xy"), api.ErrRange},
		{"a", math.MaxInt, sectors("x"), api.ErrRange}, {"a", math.MaxInt - 1, sectors("xy"), api.ErrRange},
		{"a", 0, make([]byte, (api.MaxFile+1)*api.Sector), api.ErrRange},
		{"a", 0, make([]byte, api.MaxFile*api.Sector), api.ErrSpace},
		{"a", api.MaxFile - 1, sectors("x"), api.ErrSpace}, {"a", 8, sectors("x"), api.ErrSpace},
		{"a", 7, sectors("xy"), api.ErrSpace}, {"a", 0, sectors("123456789"), api.ErrSpace},
		{"b", 7, sectors("x"), api.ErrSpace}, {"b", 0, sectors("12345678"), api.ErrSpace},
	} {
		before := state(d)
		want(t, fmt.Sprint("Write ", c.name, c.at, len(c.b)), d.Write(c.name, c.at, c.b), c.errno)
		want(t, fmt.Sprint("behind Write ", c.name, c.at, len(c.b)), state(d), before)
	}
	must(t, d.Write("a", 7, sectors("w")))
	want(t, "all room", contents(d), "a=xyz....w b=pq")
	want(t, "no more", d.Write("b", 2, sectors("r")), api.ErrSpace)
	must(t, d.Write("b", 2, nil))
	must(t, d.Write("b", 99, nil))
	must(t, d.Write("b", 0, sectors("PQ")))
	want(t, "what is there can be written", contents(d), "a=xyz....w b=PQ")
}

// 5.2
func TestFileHasAtMostMaxFile(t *testing.T) {
	d := made(t, api.MaxCap, "a=")
	want(t, "one more, by one write", d.Write("a", 0, make([]byte, (api.MaxFile+1)*api.Sector)), api.ErrRange)
	want(t, "one more", d.Write("a", api.MaxFile, sectors("x")), api.ErrRange)
	want(t, "none of them", d.Used(), 0)
	must(t, d.Write("a", api.MaxFile-2, sectors("xy")))
	n, _ := d.Size("a")
	want(t, "its size", n, api.MaxFile)
	b, errno := d.Read("a", api.MaxFile-4, 4)
	must(t, errno)
	want(t, "its end", letters(b), "..xy")
	want(t, "over its end", d.Write("a", api.MaxFile-1, sectors("xy")), api.ErrRange)
	must(t, d.Write("a", api.MaxFile, nil))
	must(t, d.Write("a", 0, make([]byte, api.MaxFile*api.Sector)))
	b, _ = d.Read("a", api.MaxFile-4, 4)
	want(t, "its end, written over", letters(b), "....")
}

// 5.2
func TestCut(t *testing.T) {
	for _, c := range []struct {
		name  string
		n     int
		errno api.Errno
		shown string
	}{
		{"a", 0, api.OK, "a= b="}, {"a", 1, api.OK, "a=x b="}, {"a", 2, api.OK, "a=xy b="}, {"a", 3, api.OK, "a=xyz b="},
		{"a", 4, api.ErrRange, "a=xyz b="}, {"a", -1, api.ErrRange, "a=xyz b="}, {"b", 0, api.OK, "a=xyz b="},
		{"a", math.MaxInt, api.ErrRange, "a=xyz b="}, {"a", math.MinInt, api.ErrRange, "a=xyz b="},
		{"a", 1 << 60, api.ErrRange, "a=xyz b="}, {"b", 1, api.ErrRange, "a=xyz b="},
		{"c", 0, api.ErrName, "a=xyz b="}, {"c", -1, api.ErrName, "a=xyz b="},
	} {
		d := made(t, 9, "a=xyz", "b=")
		before := state(d)
		want(t, fmt.Sprint("Cut ", c.name, c.n), d.Cut(c.name, c.n), c.errno)
		want(t, fmt.Sprint("behind Cut ", c.name, c.n), contents(d), c.shown)
		want(t, fmt.Sprint("behind a crash ", c.name, c.n), behindCrash(d), c.shown)
		if c.errno != api.OK {
			want(t, fmt.Sprint("all behind Cut ", c.name, c.n), state(d), before)
		}
	}
}

// 5.2: what was cut does not come back when the file grows again.
func TestCutSectorsAreZeros(t *testing.T) {
	d := made(t, 9, "a=xyz")
	must(t, d.Cut("a", 1))
	must(t, d.Write("a", 3, sectors("p")))
	want(t, "grown again", contents(d), "a=x..p")
	want(t, "behind a crash", behindCrash(d), "a=x")
	want(t, "behind a crash that it survives", behindCrash(d, true), "a=x..p")
	must(t, d.Flush("a"))
	want(t, "flushed", behindCrash(d), "a=x..p")
}

// 5.2
func TestFlush(t *testing.T) {
	d := made(t, 9, "a=xyz", "b=")
	must(t, d.Write("a", 1, sectors("pqr")))
	must(t, d.Write("b", 1, sectors("s")))
	for _, name := range []string{"", "c", "A", strings.Repeat("n", api.MaxName+1)} {
		before := state(d)
		want(t, fmt.Sprintf("Flush(%q)", name), d.Flush(name), api.ErrName)
		want(t, fmt.Sprintf("behind Flush(%q)", name), state(d), before)
	}
	want(t, "not flushed", behindCrash(d), "a=xyz b=")
	must(t, d.Flush("a"))
	want(t, "one file", behindCrash(d), "a=xpqr b=")
	want(t, "the write of the other is the first", behindCrash(d, true), "a=xpqr b=.s")
	must(t, d.Flush("b"))
	must(t, d.Flush("b"))
	want(t, "both files", behindCrash(d), "a=xpqr b=.s")
}

// 5.3: at each sector of writes to two files.
func TestPowerFailsAtTheSector(t *testing.T) {
	const dead = api.ErrDead
	for _, c := range []struct {
		n     int
		codes []api.Errno
		shown string
	}{
		{1, []api.Errno{dead, dead, dead}, "a=xy b="},
		{2, []api.Errno{0, dead, dead}, "a=x1 b="},
		{3, []api.Errno{0, dead, dead}, "a=x1 b=..2"},
		{4, []api.Errno{0, dead, dead}, "a=x1 b=..23"},
		{5, []api.Errno{0, 0, dead}, "a=x1 b=..234"},
		{6, []api.Errno{0, 0, dead}, "a=51 b=..234"},
		{7, []api.Errno{0, 0, 0}, "a=56 b=..234"},
		{0, []api.Errno{0, 0, 0}, "a=56 b=..234"},
		{-1, []api.Errno{0, 0, 0}, "a=56 b=..234"},
		{math.MinInt, []api.Errno{0, 0, 0}, "a=56 b=..234"},
		{math.MaxInt, []api.Errno{0, 0, 0}, "a=56 b=..234"},
	} {
		d := made(t, 9, "a=xy", "b=")
		d.Power(c.n)
		codes := []api.Errno{
			d.Write("a", 1, sectors("1")), d.Write("b", 2, sectors("234")), d.Write("a", 0, sectors("56")),
		}
		want(t, fmt.Sprint("Power ", c.n), codes, c.codes)
		want(t, fmt.Sprint("written, Power ", c.n), contents(d), c.shown)
		want(t, fmt.Sprint("power, Power ", c.n), hasPower(d), c.codes[2] == api.OK)
		all := behindCrash(d, true, true, true, true, true, true)
		want(t, fmt.Sprint("survived, Power ", c.n), all, c.shown)
		want(t, fmt.Sprint("lost, Power ", c.n), behindCrash(d), "a=xy b=")
	}
}

// 5.3: only sectors that are written are counted.
func TestPowerCountsSectorWritesAlone(t *testing.T) {
	d := made(t, 30, "a=xyz", "b=")
	d.Power(3)
	must(t, d.Write("b", 20, sectors("p")))
	must(t, d.Write("b", 25, nil))
	want(t, "no room", d.Write("b", 30, sectors("pqr")), api.ErrSpace)
	want(t, "not that far", d.Write("a", api.MaxFile, sectors("pqr")), api.ErrRange)
	must(t, d.Cut("b", 0))
	must(t, d.Flush("b"))
	must(t, d.Create("c"))
	must(t, d.Write("c", 5, sectors("q")))
	want(t, "the third", d.Write("a", 0, sectors("r")), api.ErrDead)
	want(t, "behind it", contents(d), "a=xyz b= c=.....q")
}

// 5.3: the zeros ahead of a sector that is not written do not come to be.
func TestPowerFailsAheadOfZeros(t *testing.T) {
	d := made(t, 30, "a=x")
	d.Power(1)
	want(t, "the first", d.Write("a", 7, sectors("pq")), api.ErrDead)
	n, _ := d.Size("a")
	want(t, "its size", n, 1)
	d.Crash([]bool{true, true, true, true, true, true, true, true})
	want(t, "nothing of it", contents(d), "a=x")
}

// 5.3: what is set last holds.
func TestPowerOnceMore(t *testing.T) {
	for _, c := range []struct{ first, between, second, left int }{
		{1, 0, 3, 2}, {3, 0, 1, 0}, {3, 1, 1, 0}, {3, 2, 3, 2}, {2, 1, 2, 1}, {2, 1, 0, 9}, {1, 0, -7, 9}, {9, 5, 4, 3},
		{math.MaxInt, 3, math.MaxInt, 9}, {math.MaxInt, 3, 2, 1}, {0, 4, 3, 2},
	} {
		d := made(t, 9, "a=x")
		d.Power(c.first)
		for range c.between {
			must(t, d.Write("a", 0, sectors("y")))
		}
		d.Power(c.second)
		left := 0
		for left < 9 && d.Write("a", 0, sectors("z")) == api.OK {
			left++
		}
		want(t, fmt.Sprint("writes that are left ", c), left, c.left)
	}
}

// dark is a disk whose power is off, with writes that are not durable.
func dark(t *testing.T) *Disk {
	d := made(t, 9, "a=xy", "b=z")
	must(t, d.Write("b", 0, sectors("p")))
	d.Power(2)
	want(t, "the second", d.Write("a", 0, sectors("qr")), api.ErrDead)
	return d
}

// 5.3
func TestWithoutPowerMethodsAnswerErrDead(t *testing.T) {
	d := dark(t)
	before := state(d)
	long := strings.Repeat("n", api.MaxName+1)
	for _, name := range []string{"a", "b", "c", "", long} {
		for _, n := range []int{0, 1, -1, math.MaxInt} {
			want(t, "Write", d.Write(name, n, sectors("w")), api.ErrDead)
			want(t, "Write of no form", d.Write(name, n, []byte{1}), api.ErrDead)
			want(t, "Write of nothing", d.Write(name, n, nil), api.ErrDead)
			want(t, "Cut", d.Cut(name, n), api.ErrDead)
			b, errno := d.Read(name, 0, n)
			want(t, "Read", fmt.Sprint(len(b), errno), fmt.Sprint(0, api.ErrDead))
		}
		want(t, "Create", d.Create(name), api.ErrDead)
		want(t, "Remove", d.Remove(name), api.ErrDead)
		want(t, "Flush", d.Flush(name), api.ErrDead)
	}
	want(t, "behind them", state(d), before)
}

// 5.3
func TestWithoutPowerOthersAnswerAsEver(t *testing.T) {
	d := dark(t)
	want(t, "List", d.List(), "[a b]")
	want(t, "Used", d.Used(), 3)
	n, errno := d.Size("a")
	want(t, "Size", fmt.Sprint(n, errno), fmt.Sprint(2, api.OK))
	n, errno = d.Size("c")
	want(t, "Size of none", fmt.Sprint(n, errno), fmt.Sprint(0, api.ErrName))
	want(t, "a copy", hasPower(d.Copy()), false)
	for _, n := range []int{0, -1, 1, 5} {
		d.Power(n)
		want(t, "Power does not turn it on", hasPower(d), false)
	}
	d.Crash([]bool{false, true})
	want(t, "Crash", contents(d), "a=qy b=z")
	want(t, "on again", hasPower(d), true)
	for range 20 {
		must(t, d.Write("a", 0, sectors("w")))
	}
}

// 5.4: a crash ahead of the failure of the power.
func TestCrashUndoesPower(t *testing.T) {
	d := made(t, 9, "a=x")
	d.Power(2)
	d.Crash(nil)
	for range 5 {
		must(t, d.Write("a", 0, sectors("y")))
	}
}
