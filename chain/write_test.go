package chain

import (
	"fmt"
	"math"
	"strings"
	"testing"

	"matryoshka/api"
	"matryoshka/image"
)

// refused is that a call answers this error, and that nothing is changed by it.
func refused(t *testing.T, what string, l []*image.Image, wanted api.Errno, call func() api.Errno) {
	t.Helper()
	var before []string
	for _, i := range l {
		before = append(before, whole(i))
	}
	want(t, what, call(), wanted)
	for k, i := range l {
		want(t, fmt.Sprintf("%s: image %d", what, k), whole(i), before[k])
	}
}

// checkWhole is what a chain shows, and of which kinds the entries of its first image are.
func checkWhole(t *testing.T, what string, l []*image.Image, text string, entries ...int) {
	t.Helper()
	want(t, what, shown(t, l, ""), text)
	want(t, what+": the kinds", kinds(l[0]), entries)
}

const (
	none   = api.EntryNone
	zero   = api.EntryZero
	raw    = api.EntryRaw
	packed = api.EntryPacked
)

// 18.3: whole clusters and parts of them; the others of a cluster become what they showed.
func TestWrite(t *testing.T) {
	for _, x := range []struct {
		top  plan
		at   int
		text string
		all  string
		l    []int
	}{
		// Whole clusters.
		{plan{0, "a--b"}, 1, "XY", "aXYb", []int{raw, raw, raw, raw}},
		{plan{1, "ab----"}, 0, "XY", "XYCDEF", []int{raw, none, none}},
		{plan{1, "ab----"}, 2, "WXYZ", "abWXYZ", []int{raw, raw, raw}},
		{plan{2, "----------------"}, 4, "VWXYQRST", "ABCDVWXYQRSTMNOP", []int{none, raw, raw, none}},
		// The end of a cluster, its beginning, its middle.
		{plan{2, "--------"}, 5, "XYZ", "ABCDEXYZ", []int{none, raw}},
		{plan{2, "--------"}, 3, "X", "ABCXEFGH", []int{raw, none}},
		{plan{2, "--------"}, 0, "X", "XBCDEFGH", []int{raw, none}},
		{plan{2, "--------"}, 4, "XYZ", "ABCDXYZH", []int{none, raw}},
		{plan{2, "--------"}, 1, "XY", "AXYDEFGH", []int{raw, none}},
		{plan{3, "--------"}, 4, "X", "ABCDXFGH", []int{raw}},
		// Parts of two clusters, and of more.
		{plan{2, "--------"}, 3, "XY", "ABCXYFGH", []int{raw, raw}},
		{plan{1, "----------"}, 1, "STUVWXY", "ASTUVWXYIJ", []int{raw, raw, raw, raw, none}},
		{plan{2, "----------------"}, 2, "STUVWXYZ", "ABSTUVWXYZKLMNOP", []int{raw, raw, raw, none}},
		{plan{2, "----------------"}, 4, "VWXYZ", "ABCDVWXYZJKLMNOP", []int{none, raw, raw, none}},
		{plan{2, "----------------"}, 3, "VWXYZ", "ABCVWXYZIJKLMNOP", []int{raw, raw, none, none}},
		// Over contents of its own, and over zeros.
		{plan{2, "abcdefgh"}, 2, "XYZ", "abXYZfgh", []int{raw, raw}},
		{plan{2, "....----"}, 1, "X", ".X..EFGH", []int{packed, none}},
		{plan{1, "..ab"}, 1, "X", ".Xab", []int{raw, raw}},
		// What becomes zeros has no contents.
		{plan{1, "ab--"}, 0, "..", "..CD", []int{zero, none}},
		{plan{1, ".b--"}, 1, ".", "..CD", []int{zero, none}},
		{plan{1, "ab--"}, 2, ".", "ab.D", []int{raw, raw}},
		{plan{1, "----"}, 0, "....", "....", []int{zero, zero}},
		// What is written already is written again.
		{plan{1, "ab--"}, 0, "ab", "abCD", []int{raw, none}},
		{plan{1, "ab--"}, 2, "C", "abCD", []int{raw, raw}},
		// All of it.
		{plan{1, "ab--"}, 0, "WXYZ", "WXYZ", []int{raw, raw}},
	} {
		_, l := chainOf(t, x.top, plan{0, "ABCDEFGHIJKLMNOP"})
		below := whole(l[1])
		what := fmt.Sprintf("Write(%d, %q) into %v", x.at, x.text, x.top)
		must(t, what, Write(l, x.at, sec(x.text)))
		checkWhole(t, what, l, x.all, x.l...)
		want(t, what+": Changed", l[0].Changed(), true)
		want(t, what+": what is below", whole(l[1]), below)
	}
}

// 18.3: the others of a cluster become what the whole chain showed, and zeros where it showed none.
func TestWriteOverAChain(t *testing.T) {
	for _, x := range []struct {
		plans []plan
		at    int
		text  string
		all   string
	}{
		{[]plan{{2, "--------"}}, 2, "X", "..X....."},
		{[]plan{{2, "--------"}, {0, "ABCDEF"}}, 4, "X", "ABCDXF.."},
		{[]plan{{2, "--------"}, {0, "ABCDEF"}}, 7, "X", "ABCDEF.X"},
		{[]plan{{2, "--------"}, {0, "AB"}, {0, "abcdefgh"}}, 1, "XYZ", "AXYZ...."},
		{[]plan{{2, "--------"}, {0, ""}, {0, "abcdefgh"}}, 5, "X", ".....X.."},
		{[]plan{{2, "--------"}, {1, "--CD--.."}, {0, "-b-defgh"}, {3, "stuvwxyz"}}, 4, "X", "sbCDXf.."},
		{[]plan{{2, "--------"}, {1, "--CD--.."}, {0, "-b-defgh"}, {3, "stuvwxyz"}}, 3, "X", "sbCXef.."},
		{[]plan{{3, "--------"}, {1, "--CD--.."}, {0, "-b-defgh"}, {2, "stuvwxyz"}}, 3, "XY", "sbCXYf.."},
	} {
		_, l := chainOf(t, x.plans...)
		what := fmt.Sprintf("Write(%d, %q) into %v", x.at, x.text, x.plans)
		must(t, what, Write(l, x.at, sec(x.text)))
		want(t, what, shown(t, l, ""), x.all)
		// What it has now is its own, whatever is below.
		k := x.at >> x.plans[0].cluster
		own, _, errno := l[0].Own("", k)
		must(t, "Own", errno)
		first := k << x.plans[0].cluster
		want(t, what+": its own", letters(own), x.all[first:first+1<<x.plans[0].cluster])
	}
}

// 18.3: the cluster of each place is put alone: no other one is in a bitmap then, and its shots stay what they were.
func TestWriteTouches(t *testing.T) {
	_, l := chainOf(t, plan{1, "ab--..cd----"}, plan{0, "ABCDEFGHIJKL"})
	takeShot(t, l[0], "s")
	addMap(t, l[0], "on", true)
	addMap(t, l[0], "off", false)
	addMap(t, l[1], "on", true)
	must(t, "Write", Write(l, 3, sec("XYZ")))
	want(t, "the bitmaps", l[0].Meta().Maps, []api.Bitmap{{Name: "on", On: true, L: []api.Span{{From: 1, To: 3}}}, {Name: "off"}})
	must(t, "Write", Write(l, 10, sec("V")), Write(l, 0, sec("ab")))
	want(t, "the bitmaps", l[0].Meta().Maps, []api.Bitmap{{Name: "on", On: true, L: []api.Span{{From: 0, To: 3}, {From: 5, To: 6}}}, {Name: "off"}})
	must(t, "Zero", Zero(l, 7, 1), Discard(l, 7, 4))
	want(t, "the bitmaps", l[0].Meta().Maps, []api.Bitmap{{Name: "on", On: true, L: []api.Span{{From: 0, To: 6}}}, {Name: "off"}})
	want(t, "the bitmaps below", l[1].Meta().Maps, []api.Bitmap{{Name: "on", On: true}})
	want(t, "the image", shown(t, l, ""), "abCXYZc...VL")
	want(t, "the shot", shown(t, l, "s"), "abCD..cdIJKL")
}

// 18.3: equal clusters are stored once.
func TestWriteOfEqualClusters(t *testing.T) {
	_, l := chainOf(t, plan{1, "----------"}, plan{0, "ABABABABCD"})
	must(t, "Write", Write(l, 0, sec("XYXYXYX")))
	want(t, "all", shown(t, l, ""), "XYXYXYXBCD")
	want(t, "what is shared", l[0].Shared(), 2)
	must(t, "Write", Write(l, 7, sec("Y")), Write(l, 8, sec("X")), Write(l, 9, sec("Y")))
	want(t, "what is shared", l[0].Shared(), 4)
}

// 18.3: the errors of Write, in their order.
func TestWriteRefuses(t *testing.T) {
	_, l := chainOf(t, plan{1, "ab--"}, plan{0, "ABCDEFGH"})
	for _, n := range []int{1, 15, 17, 63, 65, 1000} {
		for _, at := range append([]int{0, 1, 4, 5}, farNumbers...) {
			refused(t, "half a sector", l, api.ErrArg, func() api.Errno { return Write(l, at, make([]byte, n)) })
		}
	}
	for _, far := range farNumbers {
		for _, n := range []int{0, 1, 4, 5, 5000} {
			refused(t, "beyond the end", l, api.ErrRange, func() api.Errno { return Write(l, far, make([]byte, 16*n)) })
		}
	}
	for at := range 6 {
		refused(t, "beyond the end", l, api.ErrRange, func() api.Errno { return Write(l, at, make([]byte, 16*(5-at))) })
	}
	refused(t, "beyond the end", l, api.ErrRange, func() api.Errno { return Write(l, 5, nil) })
	want(t, "Changed", l[0].Changed(), false)
}

// 18.3: the errors of Zero and of Discard.
func TestZeroAndDiscardRefuse(t *testing.T) {
	_, l := chainOf(t, plan{1, "ab--"}, plan{0, "ABCDEFGH"})
	for _, call := range []func(l []*image.Image, at, n int) api.Errno{Zero, Discard} {
		refuse := func(at, n int) {
			t.Helper()
			refused(t, fmt.Sprint("beyond the end: ", at, n), l, api.ErrRange, func() api.Errno { return call(l, at, n) })
		}
		for _, far := range farNumbers {
			for near := range 6 {
				refuse(far, near)
				refuse(near, far)
			}
			for _, other := range farNumbers {
				refuse(far, other)
			}
		}
		for at := range 6 {
			refuse(at, 5-at)
			refuse(at, -1)
		}
		refuse(5, 0)
		refuse(-1, 1)
		want(t, "Changed", l[0].Changed(), false)
	}
}

// 18.3: where there is nothing to write nothing is changed.
func TestNothingToWrite(t *testing.T) {
	_, l := chainOf(t, plan{1, "ab--"}, plan{0, "ABCDEFGH"}, plan{0, ""})
	addMap(t, l[0], "on", true)
	must(t, "Flush", l[0].Flush())
	for at := range 5 {
		for _, b := range [][]byte{nil, {}, make([]byte, 0, 100)} {
			refused(t, "Write", l, api.OK, func() api.Errno { return Write(l, at, b) })
		}
		refused(t, "Zero", l, api.OK, func() api.Errno { return Zero(l, at, 0) })
		refused(t, "Discard", l, api.OK, func() api.Errno { return Discard(l, at, 0) })
	}
	refused(t, "no sectors", l[2:], api.OK, func() api.Errno { return Write(l[2:], 0, nil) })
	refused(t, "no sectors", l[2:], api.ErrRange, func() api.Errno { return Write(l[2:], 0, sec("x")) })
	// Within one cluster there is nothing to discard either.
	refused(t, "parts", l, api.OK, func() api.Errno { return Discard(l, 0, 1) })
	refused(t, "parts", l, api.OK, func() api.Errno { return Discard(l, 1, 2) })
	want(t, "Changed", l[0].Changed(), false)
}

// 18.3: an empty chain has no sectors, whatever is handed in.
func TestWriteToNoChain(t *testing.T) {
	for _, l := range [][]*image.Image{nil, {}} {
		for _, n := range append([]int{0, 1, 16}, farNumbers...) {
			for _, m := range append([]int{0, 1, 16}, farNumbers...) {
				want(t, "Zero", Zero(l, n, m), api.ErrNone)
				want(t, "Discard", Discard(l, n, m), api.ErrNone)
			}
			for _, b := range [][]byte{nil, {}, {1}, sec("x"), make([]byte, 17)} {
				want(t, "Write", Write(l, n, b), api.ErrNone)
			}
		}
	}
}

// 18.3: a nil image has no sectors that could be written to; below another one it shows zeros.
func TestWriteToNilImages(t *testing.T) {
	_, l := chainOf(t, plan{1, "ab----"}, plan{0, "ABCDEF"})
	a, b := l[0], l[1]
	before := whole(a) + whole(b)
	for _, first := range [][]*image.Image{{nil}, {nil, nil}, {nil, a, b}} {
		want(t, "Write", Write(first, 0, sec("x")), api.ErrRange)
		want(t, "Write", Write(first, 0, sec("x")[:3]), api.ErrArg)
		want(t, "Write", Write(first, 1, nil), api.ErrRange)
		want(t, "Write", Write(first, 0, nil), api.OK)
		for _, call := range []func(l []*image.Image, at, n int) api.Errno{Zero, Discard} {
			want(t, "a sector", call(first, 0, 1), api.ErrRange)
			want(t, "no sector", call(first, 1, 0), api.ErrRange)
			want(t, "no sector", call(first, 0, 0), api.OK)
		}
	}
	want(t, "the others", whole(a)+whole(b), before)
	must(t, "Write", Write([]*image.Image{a, nil, b}, 2, sec("X")))
	want(t, "over a nil one", shown(t, l, ""), "abX.EF")
	must(t, "Write", Write([]*image.Image{a, b, nil}, 4, sec("X")))
	want(t, "over a nil one", shown(t, l, ""), "abX.XF")
}

// 18.3: an image that stands upon itself.
func TestWriteToOneImageTwice(t *testing.T) {
	_, l := chainOf(t, plan{1, "ab----"}, plan{2, "ABCD----"})
	a, b := l[0], l[1]
	must(t, "Write", Write([]*image.Image{a, a}, 1, sec("XYZ")))
	want(t, "two", shown(t, l, ""), "aXYZ..")
	must(t, "Clear", a.Clear(0), a.Clear(1), a.Clear(2))
	must(t, "Write", Write([]*image.Image{a, b, a, b}, 3, sec("XY")))
	want(t, "four", shown(t, l, ""), "ABCXY.")
	must(t, "Zero", Zero([]*image.Image{a, b, a}, 1, 2), Discard([]*image.Image{a, a}, 3, 3))
	want(t, "zeros", shown(t, l, ""), "A..X..")
}

// 18.3: whole clusters become zeros by their entry alone, parts of others as by Write.
func TestZero(t *testing.T) {
	for _, x := range []struct {
		top   plan
		at, n int
		all   string
		l     []int
	}{
		{plan{0, "a--b"}, 1, 2, "a..b", []int{raw, zero, zero, raw}},
		{plan{1, "ab----"}, 0, 2, "..CDEF", []int{zero, none, none}},
		{plan{1, "ab----"}, 2, 4, "ab....", []int{raw, zero, zero}},
		{plan{1, "ab----"}, 0, 6, "......", []int{zero, zero, zero}},
		{plan{1, "------"}, 1, 1, "A.CDEF", []int{raw, none, none}},
		{plan{1, "------"}, 1, 2, "A..DEF", []int{raw, raw, none}},
		{plan{1, "------"}, 1, 4, "A....F", []int{raw, zero, raw}},
		{plan{2, "------------"}, 2, 8, "AB........KL", []int{packed, zero, packed}},
		{plan{2, "------------"}, 5, 2, "ABCDE..HIJKL", []int{none, packed, none}},
		{plan{2, "------------"}, 4, 3, "ABCD...HIJKL", []int{none, packed, none}},
		{plan{2, "------------"}, 5, 3, "ABCDE...IJKL", []int{none, packed, none}},
		{plan{2, "------------"}, 4, 4, "ABCD....IJKL", []int{none, zero, none}},
		// What has become zeros in the last part has no contents either.
		{plan{1, "ab.d"}, 3, 1, "ab..", []int{raw, zero}},
		{plan{1, "..--"}, 0, 1, "..CD", []int{zero, none}},
		{plan{1, "..--"}, 0, 3, "...D", []int{zero, raw}},
	} {
		_, l := chainOf(t, x.top, plan{0, "ABCDEFGHIJKLMNOP"})
		below := whole(l[1])
		what := fmt.Sprintf("Zero(%d, %d) of %v", x.at, x.n, x.top)
		must(t, what, Zero(l, x.at, x.n))
		checkWhole(t, what, l, x.all, x.l...)
		want(t, what+": Changed", l[0].Changed(), true)
		want(t, what+": what is below", whole(l[1]), below)
	}
}

// 18.3: what is below is zeros already, so that the rest of a cluster is all that there is.
func TestZeroOverZeros(t *testing.T) {
	_, l := chainOf(t, plan{2, "--------"}, plan{0, ".b"})
	must(t, "Zero", Zero(l, 1, 1), Zero(l, 6, 1))
	checkWhole(t, "zeros", l, "........", zero, zero)
}

// 18.3: clusters that lie wholly within become zeros, others remain as they are.
func TestDiscard(t *testing.T) {
	for _, x := range []struct {
		top   plan
		at, n int
		all   string
		l     []int
	}{
		{plan{0, "a--b"}, 0, 2, "..Cb", []int{zero, zero, none, raw}},
		{plan{1, "ab----"}, 0, 2, "..CDEF", []int{zero, none, none}},
		{plan{1, "ab----"}, 1, 3, "ab..EF", []int{raw, zero, none}},
		{plan{1, "ab----"}, 0, 5, "....EF", []int{zero, zero, none}},
		{plan{1, "ab----"}, 1, 5, "ab....", []int{raw, zero, zero}},
		{plan{1, "ab----"}, 0, 6, "......", []int{zero, zero, zero}},
		{plan{2, "abcd--------"}, 3, 8, "abcd....IJKL", []int{raw, zero, none}},
		{plan{2, "abcd--------"}, 4, 4, "abcd....IJKL", []int{raw, zero, none}},
		{plan{2, "abcd--------"}, 1, 7, "abcd....IJKL", []int{raw, zero, none}},
		{plan{2, "abcd--------"}, 0, 11, "........IJKL", []int{zero, zero, none}},
		{plan{2, "abcd--------"}, 1, 6, "abcdEFGHIJKL", []int{raw, none, none}},
		{plan{2, "abcd--------"}, 5, 3, "abcdEFGHIJKL", []int{raw, none, none}},
	} {
		_, l := chainOf(t, x.top, plan{0, "ABCDEFGHIJKLMNOP"})
		below, before := whole(l[1]), whole(l[0])
		what := fmt.Sprintf("Discard(%d, %d) of %v", x.at, x.n, x.top)
		must(t, what, Discard(l, x.at, x.n))
		checkWhole(t, what, l, x.all, x.l...)
		want(t, what+": whether it is as it was", whole(l[0]) == before, !l[0].Changed())
		want(t, what+": Changed", l[0].Changed(), strings.Contains(fmt.Sprint(x.l), fmt.Sprint(zero)))
		want(t, what+": what is below", whole(l[1]), below)
	}
}

// 18.3: an image of the greatest size, all of which is turned by one call.
func TestWriteOfLargeImages(t *testing.T) {
	for _, clusters := range [][2]int{{0, 6}, {6, 0}, {4, 4}} {
		_, l := chainOf(t, plan{clusters[0], strings.Repeat("-", 4096)}, plan{clusters[1], strings.Repeat("ABCDEFGH", 512)})
		all := strings.Repeat("stuvwxyz", 512)
		must(t, "Write", Write(l, 1, sec(all[1:4095])))
		want(t, "written", shown(t, l, ""), "A"+all[1:4095]+"H")
		must(t, "Write", Write(l, 0, sec(all)), Discard(l, 1, 4094))
		end := 1 << clusters[0]
		want(t, "discarded", shown(t, l, ""), all[:end]+strings.Repeat(".", 4096-2*end)+all[4096-end:])
		must(t, "Zero", Zero(l, 0, 4096))
		want(t, "zeros", shown(t, l, ""), strings.Repeat(".", 4096))
		want(t, "what is below", shown(t, l[1:], ""), strings.Repeat("ABCDEFGH", 512))
	}
	_, l := chainOf(t, plan{0, "a"})
	want(t, "too much", Write(l, 0, make([]byte, 1<<24)), api.ErrRange)
	want(t, "too much, and half a sector", Write(l, math.MaxInt, make([]byte, 1<<24+1)), api.ErrArg)
}

// 18.3: of what is replaced nothing is read: it may be spoiled, in the first image and below.
func TestWriteOverSpoiledClusters(t *testing.T) {
	d, l := chainOf(t, plan{1, "ab--ef"}, plan{0, "ABCDEF"})
	for _, k := range []int{0, 2} {
		spoil(t, d, "a", l[0], k)
	}
	for _, sector := range []int{1, 3, 5} {
		spoil(t, d, "b", l[1], sector)
	}
	refused(t, "part of a spoiled one", l, api.ErrSum, func() api.Errno { return Write(l, 1, sec("X")) })
	refused(t, "part over a spoiled one", l, api.ErrSum, func() api.Errno { return Write(l, 2, sec("X")) })
	refused(t, "part of a spoiled one", l, api.ErrSum, func() api.Errno { return Zero(l, 4, 1) })
	refused(t, "part of a spoiled one", l, api.OK, func() api.Errno { return Discard(l, 3, 2) })
	must(t, "the spoiled one alone", Write(l, 3, sec("X")))
	checkRead(t, l, "", 2, 2, "CX", api.OK)
	must(t, "whole ones", Write(l, 0, sec("YZ")), Zero(l, 4, 2))
	want(t, "all", shown(t, l, ""), "YZCX..")
	must(t, "Discard", l[0].Clear(0), Discard(l, 0, 3))
	want(t, "all", shown(t, l, ""), "..CX..")
}

// 18.3: image.Zero needs no power. What is written does, as soon as something is.
func TestWriteWithoutPower(t *testing.T) {
	d, l := chainOf(t, plan{1, "ab--ef"}, plan{0, "ABCDEF"})
	powerOff(t, d, "b")
	want(t, "Write", Write(l, 0, sec("XY")), api.ErrDead)
	want(t, "Write", Write(l, 0, sec("X")), api.ErrDead)
	want(t, "Write", Write(l, 0, sec("..")), api.ErrDead)
	want(t, "Write", Write(l, 0, nil), api.OK)
	want(t, "Write", Write(l, 0, make([]byte, 15)), api.ErrArg)
	want(t, "Write", Write(l, 0, make([]byte, 112)), api.ErrRange)
	want(t, "Zero", Zero(l, 1, 4), api.ErrDead)
	want(t, "Zero", Zero(l, 0, 3), api.ErrDead)
	want(t, "Zero", Zero(l, 0, 7), api.ErrRange)
	want(t, "Discard", Discard(l, 0, 7), api.ErrRange)
	want(t, "Discard", Discard(l, 1, 1), api.OK)
	want(t, "the kinds", kinds(l[0]), []int{raw, none, raw})
	want(t, "Changed", l[0].Changed(), false)
	want(t, "Zero", Zero(l, 0, 2), api.OK)
	want(t, "Discard", Discard(l, 1, 3), api.OK)
	want(t, "the kinds", kinds(l[0]), []int{zero, zero, raw})
	d.Crash(nil)
	want(t, "all", shown(t, l, ""), "....ef")
}
