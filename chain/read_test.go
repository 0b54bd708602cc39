package chain

import (
	"fmt"
	"strings"
	"testing"

	"matryoshka/api"
	"matryoshka/image"
)

// shows is the letter of a sector as 18.2 tells it of a chain of plans.
func shows(plans []plan, sector int) byte {
	if len(plans) == 0 || sector >= len(plans[0].text) {
		return '.'
	}
	top := plans[0]
	first := sector >> top.cluster << top.cluster
	if strings.Contains(top.text[first:first+1<<top.cluster], "-") {
		return shows(plans[1:], sector)
	}
	return top.text[sector]
}

// stacks are chains of each kind that the chapter tells apart.
var stacks = [][]plan{
	{{0, "abc"}},
	{{1, "ab--..cd"}},
	{{0, ""}},
	{{0, ""}, {0, "abc"}},
	// Below are smaller clusters, and greater ones.
	{{2, "----wxyz----...."}, {0, "abcdefghijklmnop"}},
	{{2, "----wxyz--------"}, {1, "ab--efgh..kl--op"}},
	{{0, "-x--y-..--z-----"}, {2, "abcdefgh----...."}},
	{{1, "--xx--..yy------"}, {3, "abcdefgh--------"}},
	{{0, "-.-x------------"}, {2, "abcd----efgh...."}, {1, "--pp--qq--rrss--"}},
	// The next one ends within a cluster, or ahead of one; there is something behind it that doesn't show through.
	{{2, "--------xxxx----"}, {0, "abcdef"}},
	{{2, "------------"}, {0, "abcde"}, {0, "ABCDEFGHIJKL"}},
	{{2, "----------------"}, {1, "ab--"}, {0, "ABCDEFGHIJKL"}},
	{{0, "------------"}, {2, "----efgh"}, {0, "ABCDEFGHIJKL"}},
	{{0, "----"}, {0, ""}, {0, "ABCD"}},
	{{3, "--------"}, {0, ""}},
	// The next one is larger.
	{{1, "--xy"}, {2, "abcdefghijkl"}},
	{{0, "---"}, {3, "abcdefgh"}},
	// Each of them has something of its own.
	{{1, "----------xx----"}, {2, "--------bbbb----"}, {0, "c---------------"}, {1, "--dd--------dd--"}, {3, "eeeeeeeeeeeeeeee"}},
	{{2, "................"}, {0, "abcdefghijklmnop"}},
	{{2, "--------........"}, {1, "..--..--abcdefgh"}, {0, "ABCDEFGHIJKLMNOP"}},
}

// 18.2: all that can be read of each of these chains.
func TestRead(t *testing.T) {
	for _, plans := range stacks {
		_, l := chainOf(t, plans...)
		size := len(plans[0].text)
		all := ""
		for sector := range size {
			all += string(shows(plans, sector))
		}
		for at := range size + 1 {
			for n := range size - at + 1 {
				checkRead(t, l, "", at, n, all[at:at+n], api.OK)
			}
			checkRead(t, l, "", at, size-at+1, "", api.ErrRange)
		}
		cluster := plans[0].cluster
		for k := range size >> cluster {
			b, errno := Cluster(l, "", k)
			must(t, "Cluster", errno)
			want(t, fmt.Sprintf("Cluster %d of %v", k, plans), letters(b), all[k<<cluster:(k+1)<<cluster])
		}
		checkNoCluster(t, l, "", size>>cluster, api.ErrRange)
	}
}

func checkNoCluster(t *testing.T, l []*image.Image, shot string, k int, errno api.Errno) {
	t.Helper()
	b, got := Cluster(l, shot, k)
	what := fmt.Sprintf("Cluster(%q, %d)", shot, k)
	want(t, what, got, errno)
	want(t, what, len(b), 0)
}

// 18.2: clusters of the greatest size, and images of it.
func TestReadOfLargeImages(t *testing.T) {
	for _, clusters := range [][]int{{6, 0}, {0, 6}, {6, 6}, {3, 5, 2}, {0, 0, 0, 0, 0, 0, 0, 0}} {
		var plans []plan
		for range clusters {
			plans = append(plans, plan{text: strings.Repeat("-", 4096)})
		}
		for k, cluster := range clusters {
			plans[k].cluster = cluster
		}
		last := &plans[len(plans)-1].text
		*last = strings.Repeat("abcdefghijklm.op", 256)
		_, l := chainOf(t, plans...)
		want(t, "all", shown(t, l, ""), *last)
		checkRead(t, l, "", 4090, 6, "klm.op", api.OK)
		checkRead(t, l, "", 4096, 0, "", api.OK)
		b, errno := Cluster(l, "", 4096>>clusters[0]-1)
		must(t, "Cluster", errno)
		want(t, "the last cluster", letters(b), (*last)[4096-1<<clusters[0]:])
	}
}

// 18.2: what is not within the image, of any at and n, also if their sum is no number any more; and none at all.
func TestReadBeyond(t *testing.T) {
	_, l := chainOf(t, plan{1, "ab----"}, plan{0, "ABCDEFGHIJKL"})
	for _, far := range farNumbers {
		for near := range 8 {
			checkRead(t, l, "", far, near, "", api.ErrRange)
			checkRead(t, l, "", near, far, "", api.ErrRange)
		}
		for _, other := range farNumbers {
			checkRead(t, l, "", far, other, "", api.ErrRange)
		}
		checkNoCluster(t, l, "", far, api.ErrRange)
	}
	for at := range 7 {
		checkRead(t, l, "", at, 0, "", api.OK)
		checkRead(t, l, "", at, 7-at, "", api.ErrRange)
	}
	checkRead(t, l, "", 7, 0, "", api.ErrRange)
	checkRead(t, l, "", 7, -1, "", api.ErrRange)
	checkRead(t, l, "", -1, 1, "", api.ErrRange)
	checkRead(t, l, "", -1, 0, "", api.ErrRange)
	checkRead(t, l, "", 1, -1, "", api.ErrRange)
	checkNoCluster(t, l, "", 3, api.ErrRange)
	checkNoCluster(t, l, "", 6, api.ErrRange)
}

// 18.2: an empty chain shows nothing, whatever is handed in.
func TestReadOfNoChain(t *testing.T) {
	for _, l := range [][]*image.Image{nil, {}} {
		for _, shot := range []string{"", "s", "no name"} {
			for _, n := range append([]int{0, 1}, farNumbers...) {
				checkRead(t, l, shot, n, 0, "", api.ErrNone)
				checkRead(t, l, shot, 0, n, "", api.ErrNone)
				checkRead(t, l, shot, n, n, "", api.ErrNone)
				checkNoCluster(t, l, shot, n, api.ErrNone)
			}
		}
	}
}

// 18.2: a nil image has no sectors and no shots; what stands above it, and what it stands upon, is there nevertheless.
func TestReadOfNilImages(t *testing.T) {
	_, l := chainOf(t, plan{1, "ab----"}, plan{0, "AB-D"}, plan{0, "vwxyzw"})
	a, b, c := l[0], l[1], l[2]
	for _, first := range [][]*image.Image{{nil}, {nil, a}, {nil, nil}, {nil, a, b, c}} {
		checkRead(t, first, "", 0, 0, "", api.OK)
		checkRead(t, first, "", 0, 1, "", api.ErrRange)
		checkRead(t, first, "", 1, 0, "", api.ErrRange)
		checkRead(t, first, "s", 0, 0, "", api.ErrName)
		checkNoCluster(t, first, "", 0, api.ErrRange)
		checkNoCluster(t, first, "s", 0, api.ErrName)
	}
	for _, x := range []struct {
		l    []*image.Image
		text string
	}{
		{[]*image.Image{a, nil}, "ab...."},
		{[]*image.Image{a, nil, b, c}, "ab...."},
		{[]*image.Image{a, b, nil}, "ab.D.."},
		{[]*image.Image{a, b, nil, c}, "ab.D.."},
		{[]*image.Image{a, b, c, nil}, "abxD.."},
		{[]*image.Image{a, c, nil}, "abxyzw"},
	} {
		want(t, "all", shown(t, x.l, ""), x.text)
	}
}

// 18.2: an image that occurs again shows nothing that it has not shown already.
func TestReadOfOneImageTwice(t *testing.T) {
	_, l := chainOf(t, plan{1, "ab----"}, plan{0, "AB-D--"})
	a, b := l[0], l[1]
	want(t, "one", shown(t, []*image.Image{a, a, a}, ""), "ab....")
	want(t, "two", shown(t, []*image.Image{a, b, a, b, a}, ""), "ab.D..")
	takeShot(t, a, "s")
	fill(t, a, "xy--zz")
	want(t, "a shot over its image", shown(t, []*image.Image{a, a}, "s"), "ab..zz")
	var many []*image.Image
	for range 1 << 16 {
		many = append(many, a)
	}
	want(t, "many", shown(t, many, ""), "xy..zz")
	want(t, "many and one", shown(t, append(many, b), ""), "xy.Dzz")
}

// 18.2: what an image is made for doesn't count, but what stands behind it in the chain.
func TestReadOfAnyChain(t *testing.T) {
	_, l := chainOf(t, plan{0, "--a-"}, plan{0, "-b--"}, plan{1, "cccc"})
	a, b, c := l[0], l[1], l[2]
	m := a.Meta()
	m.Back = ""
	must(t, "Turn", a.Turn(m))
	want(t, "without a Back", shown(t, []*image.Image{a, b, c}, ""), "cbac")
	want(t, "another order", shown(t, []*image.Image{b, a, c}, ""), "cbac")
	want(t, "another one", shown(t, []*image.Image{a, c}, ""), "ccac")
	want(t, "none", shown(t, []*image.Image{a}, ""), "..a.")
	want(t, "of the disk of another", shown(t, append([]*image.Image{a}, otherChain(t)...), ""), "zzaz")
}

// otherChain is one image, on a disk of its own.
func otherChain(t *testing.T) []*image.Image {
	t.Helper()
	_, l := chainOf(t, plan{0, "zzzz"})
	return l
}

// 18.2: a shot of the first image is read, and the rest of the chain as it is, also if it has a shot of that name.
func TestReadOfShots(t *testing.T) {
	_, l := chainOf(t, plan{1, "ab----..--"}, plan{0, "ABCDEFGHIJ"}, plan{2, "qrstuvwxyzyx"})
	for _, i := range l {
		takeShot(t, i, "s")
	}
	fill(t, l[0], "--cd--efgh")
	fill(t, l[1], "KL-N------")
	fill(t, l[2], "----12345678")
	want(t, "the image", shown(t, l, ""), "KLcd12efgh")
	want(t, "the shot", shown(t, l, "s"), "ab.N12..56")
	want(t, "the shot of the next one", shown(t, l[1:], "s"), "ABCDEFGHIJ")
	want(t, "the next one", shown(t, l[1:], ""), "KL.N123456")
	for k, text := range []string{"ab", ".N", "12", "..", "56"} {
		b, errno := Cluster(l, "s", k)
		must(t, "Cluster", errno)
		want(t, fmt.Sprint("cluster ", k), letters(b), text)
	}
	checkNoCluster(t, l, "s", 5, api.ErrRange)
	checkNoCluster(t, l, "t", 0, api.ErrName)
	takeShot(t, l[1], "t")
	checkRead(t, l, "t", 0, 1, "", api.ErrName)
	checkRead(t, l, "S", 0, 1, "", api.ErrName)
	checkRead(t, l, "s\x00", 0, 0, "", api.ErrName)
	checkRead(t, l[1:], "t", 0, 4, "KL.N", api.OK)
	// It is the first one of several shots that has the name.
	takeShot(t, l[0], "t")
	want(t, "another shot", shown(t, l, "t"), "KLcd12efgh")
}

// 18.2: a shot has a size of its own, which is that of what can be read of it.
func TestReadOfShotsOfAnotherSize(t *testing.T) {
	_, l := chainOf(t, plan{1, "ab--ef"}, plan{0, "ABCDEFGHIJ"})
	takeShot(t, l[0], "s")
	must(t, "Resize", l[0].Resize(10))
	want(t, "the image", shown(t, l, ""), "abCDef....")
	want(t, "the shot", shown(t, l, "s"), "abCDef")
	checkRead(t, l, "s", 4, 3, "", api.ErrRange)
	checkRead(t, l, "s", 6, 0, "", api.OK)
	checkRead(t, l, "s", 7, 0, "", api.ErrRange)
	checkNoCluster(t, l, "s", 3, api.ErrRange)
	must(t, "Resize", l[0].Resize(2))
	want(t, "the image", shown(t, l, ""), "ab")
	want(t, "the shot", shown(t, l, "s"), "abCDef")
	checkRead(t, l, "", 2, 1, "", api.ErrRange)
	checkRead(t, l, "s", 1, 5, "bCDef", api.OK)
	must(t, "Resize", l[0].Resize(0))
	checkRead(t, l, "", 0, 0, "", api.OK)
	checkNoCluster(t, l, "", 0, api.ErrRange)
	want(t, "the shot", shown(t, l, "s"), "abCDef")
}

// 18.2: a cluster that isn't what it was has no contents; of the first image, and of another one where it is shown.
func TestReadOfSpoiledClusters(t *testing.T) {
	d, l := chainOf(t, plan{1, "ab--ef--"}, plan{2, "ABCDEFGH"}, plan{0, "qrstuvwx"})
	spoil(t, d, "a", l[0], 0)
	spoil(t, d, "c", l[2], 3)
	for at := range 9 {
		for n := range 9 - at {
			if at < 2 && n > 0 {
				checkRead(t, l, "", at, n, "", api.ErrSum)
			} else {
				checkRead(t, l, "", at, n, "abCDefGH"[at:at+n], api.OK)
			}
		}
	}
	checkNoCluster(t, l, "", 0, api.ErrSum)
	// What is below is spoiled as a whole cluster, and only where it shows through.
	spoil(t, d, "b", l[1], 1)
	checkRead(t, l, "", 4, 2, "ef", api.OK)
	checkRead(t, l, "", 2, 4, "CDef", api.OK)
	checkRead(t, l, "", 5, 2, "", api.ErrSum)
	checkRead(t, l, "", 7, 1, "", api.ErrSum)
	checkRead(t, l[1:], "", 4, 1, "", api.ErrSum)
	checkNoCluster(t, l, "", 3, api.ErrSum)
	b, errno := Cluster(l, "", 2)
	must(t, "Cluster", errno)
	want(t, "over a spoiled one", letters(b), "ef")
	// What is below that is spoiled in one sector alone.
	must(t, "Clear", l[1].Clear(0))
	checkRead(t, l, "", 2, 1, "s", api.OK)
	checkRead(t, l, "", 2, 2, "", api.ErrSum)
	checkRead(t, l, "", 3, 0, "", api.OK)
}

// 18.2: where two errors apply the first one that the chapter names is returned.
func TestReadOfTwoErrors(t *testing.T) {
	d, l := chainOf(t, plan{1, "ab--"}, plan{0, "ABCD"})
	takeShot(t, l[0], "s")
	spoil(t, d, "a", l[0], 0)
	spoil(t, d, "b", l[1], 2)
	check := func(errno api.Errno) {
		t.Helper()
		for _, at := range []int{-1, 5} {
			checkRead(t, l, "none", at, 1, "", api.ErrName)
			checkRead(t, l, "", at, 1, "", api.ErrRange)
			checkNoCluster(t, l, "none", at, api.ErrName)
		}
		checkRead(t, l, "none", 0, 1, "", api.ErrName)
		checkRead(t, l, "", 0, 5, "", api.ErrRange)
		checkRead(t, l, "s", 1, 4, "", api.ErrRange)
		checkRead(t, l, "", 1, 1, "", errno)
		checkRead(t, l, "s", 0, 4, "", errno)
		checkRead(t, l, "", 2, 1, "", errno)
		checkNoCluster(t, l, "s", 0, errno)
		checkNoCluster(t, l, "", 2, api.ErrRange)
		// Nothing is asked of the images.
		checkRead(t, l, "s", 4, 0, "", api.OK)
	}
	check(api.ErrSum)
	powerOff(t, d, "b")
	check(api.ErrDead)
}

// 18.2: of several sectors that have no contents the first one tells the error.
func TestReadTellsTheFirstSector(t *testing.T) {
	d, l := chainOf(t, plan{1, "--bb--cc"})
	under, below := chainOf(t, plan{0, "ABCDEFGH"})
	l = append(l, below...)
	spoil(t, d, "a", l[0], 1)
	powerOff(t, under, "a")
	checkRead(t, l, "", 0, 8, "", api.ErrDead)
	checkRead(t, l, "", 2, 6, "", api.ErrSum)
	checkRead(t, l, "", 4, 4, "", api.ErrDead)
	checkRead(t, l, "", 6, 2, "cc", api.OK)
	powerOff(t, d, "a")
	checkRead(t, l, "", 2, 6, "", api.ErrDead)
	checkRead(t, l, "", 6, 2, "", api.ErrDead)
}
