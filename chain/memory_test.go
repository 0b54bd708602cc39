package chain

import (
	"fmt"
	"math/rand"
	"slices"
	"sync"
	"testing"

	"matryoshka/api"
	"matryoshka/image"
)

// spare is a copy of b with spare capacity, which is filled too.
func spare(b []byte) []byte {
	l := append(slices.Clone(b), sec("spare")...)
	return l[:len(b)]
}

// spoilResult writes into a result and its spare capacity.
func spoilResult(b []byte) {
	b = b[:cap(b)]
	for n := range b {
		b[n] ^= 0x55
	}
}

// R3: what is handed in is neither changed nor kept, its spare capacity too.
func TestArgumentsAreNotChanged(t *testing.T) {
	_, l := chainOf(t, plan{1, "ab----------"}, plan{0, "ABCDEFGHIJKL"})
	chain := append(slices.Clone(l), l[1], nil)[:2]
	images := slices.Clone(chain[:4])
	b := spare(sec("RSTUVWXYZ"))
	kept := slices.Clone(b[:cap(b)])
	must(t, "Write", Write(chain, 1, b), Zero(chain, 4, 1), Discard(chain, 0, 12-3))
	must(t, "Write", Write(chain, 1, b))
	want(t, "the bytes", b[:cap(b)], kept)
	want(t, "the images", slices.Equal(chain[:4], images), true)
	before := shown(t, l, "") + state(l[0])
	spoilResult(b)
	clear(chain[:4])
	want(t, "what was kept", shown(t, l, "")+state(l[0]), before)
	want(t, "what is shown", shown(t, l, ""), ".RSTUVWXYZKL")
	// It is the same where a call is refused, or undone.
	b = spare(sec("RSTUVWXYZ"))
	chain = slices.Clone(l)
	want(t, "Write", Write(chain, 4, b), api.ErrRange)
	want(t, "Write", Write(chain, 0, b[:17]), api.ErrArg)
	want(t, "the bytes", b[:cap(b)], kept)
	want(t, "the images", slices.Equal(chain, l), true)
}

// R3: writing into a result changes nothing of the images, of other results, or of what is read later.
func TestResultsAreNew(t *testing.T) {
	_, l := chainOf(t, plan{1, "abab--..--"}, plan{3, "ABCDABCD"})
	takeShot(t, l[0], "s")
	before := fmt.Sprint(whole(l[0]), whole(l[1]))
	text := "ababAB...."
	for range 3 {
		var results [][]byte
		var texts []string
		add := func(wanted string, b []byte, errno api.Errno) {
			must(t, "a result", errno)
			results, texts = append(results, b), append(texts, wanted)
		}
		for _, shot := range []string{"", "s"} {
			for at := range 10 {
				b, errno := Read(l, shot, at, 10-at)
				add(text[at:], b, errno)
				b, errno = Read(l, shot, at, 1)
				add(text[at:at+1], b, errno)
				b, errno = Cluster(l, shot, at/2)
				add(text[at/2*2:at/2*2+2], b, errno)
				b, errno = Read(l, shot, at, 0)
				add("", b, errno)
			}
		}
		for n, b := range results {
			want(t, "a result", letters(b), texts[n])
			spoilResult(b)
			_ = append(b, 1, 2, 3)
		}
		want(t, "the images", fmt.Sprint(whole(l[0]), whole(l[1])), before)
		want(t, "all", shown(t, l, ""), text)
	}
}

// R1, R4: whatever is handed in, no call panics, and each error comes with nothing else and leaves all as it was.
func TestAnyArguments(t *testing.T) {
	r := rand.New(rand.NewSource(4))
	numbers := append([]int{0, 0, 1, 1, 2, 3, 4, 5, 6, 7, 8, 9, 15, 16, 17}, farNumbers...)
	number := func() int { return numbers[r.Intn(len(numbers))] }
	names := []string{"", "s", "t", "none", "S", "\xff\x00", "a much longer name than there may be one"}
	name := func() string { return names[r.Intn(len(names))] }
	for seed := range 40 {
		d, images := full(t, seed%4)
		_, others := chainOf(t, plan{2, "abcd----efgh"}, plan{0, ""}, plan{0, "------"})
		takeShot(t, others[0], "t")
		images = append(append(images, others...), nil)
		if seed%5 == 4 {
			spoil(t, d, "a", images[0], 0)
		}
		if seed%7 == 6 {
			powerOff(t, d, "a")
		}
		for range 300 {
			var l []*image.Image
			for range r.Intn(5) {
				l = append(l, images[r.Intn(len(images))])
			}
			var before []string
			for _, i := range l {
				before = append(before, whole(i))
			}
			errno := anyCall(t, r, l, name, number)
			for k, i := range l {
				if errno != api.OK {
					want(t, "beside an error", whole(i), before[k])
				} else if !slices.Contains(l[:1], i) {
					want(t, "what is below", whole(i), before[k])
				}
			}
		}
	}
}

// anyCall is one of the calls, with any arguments.
func anyCall(t *testing.T, r *rand.Rand, l []*image.Image, name func() string, number func() int) api.Errno {
	var b []byte
	var errno api.Errno
	switch r.Intn(6) {
	case 0:
		var links []api.Link
		for range r.Intn(10) {
			links = append(links, api.Link{Name: name(), Back: name()})
		}
		kept := slices.Clone(links)
		errno = Check(links, name())
		want(t, "the links", links, kept)
	case 1:
		b, errno = Cluster(l, name(), number())
	case 2:
		b, errno = Read(l, name(), number(), number())
	case 3:
		data := noisy(r.Intn(9)*16+r.Intn(20)/19, r.Intn(9))
		kept := slices.Clone(data)
		errno = Write(l, number(), data)
		want(t, "the bytes", data, kept)
	case 4:
		errno = Zero(l, number(), number())
	default:
		errno = Discard(l, number(), number())
	}
	if errno != api.OK {
		want(t, "what is beside an error", b == nil, true)
	}
	return errno
}

// R1: an image whose file isn't there any more, or on a disk that has been cut, is told of by its errors.
func TestWithoutAFile(t *testing.T) {
	d, l := chainOf(t, plan{1, "ab--..--"}, plan{0, "ABCDEFGH"})
	_, above := chainOf(t, plan{1, "------XY"})
	must(t, "Remove", d.Remove("a"))
	before := fmt.Sprint(l[0].Meta(), l[0].Changed())
	checkRead(t, l, "", 0, 1, "", api.ErrSum)
	checkRead(t, l, "", 2, 6, "CD..GH", api.OK)
	want(t, "Write", Write(l, 2, sec("XY")), api.ErrName)
	want(t, "Write", Write(l, 2, sec("X")), api.ErrName)
	want(t, "Write", Write(l, 1, sec("X")), api.ErrSum)
	want(t, "Zero", Zero(l, 4, 3), api.ErrName)
	want(t, "the image", fmt.Sprint(l[0].Meta(), l[0].Changed()), before)
	must(t, "Write", Write(append(above, l...), 3, sec("X")))
	checkRead(t, append(above, l...), "", 2, 6, "CX..XY", api.OK)
	must(t, "Cut", d.Cut("b", 3))
	checkRead(t, l, "", 2, 1, "", api.ErrSum)
	want(t, "the files", d.List(), []string{"b"})
}

// R5: chains of disks of their own share nothing, and the same calls have the same results.
func TestChainsShareNothing(t *testing.T) {
	run := func(seed int64) string {
		x := runOf(t, seed)
		told := ""
		for range 30 {
			what, errno, shows := x.write(x.r.Intn(len(x.l)))
			told += fmt.Sprintln(what, errno, letters(shows))
		}
		for k, i := range x.l {
			size, _ := x.d.Size(nameOf(k))
			b, errno := x.d.Read(nameOf(k), 0, size)
			told += fmt.Sprintln(whole(i), i.Flush(), errno, b)
		}
		return told
	}
	var group sync.WaitGroup
	told := make([]string, 12)
	for n := range told {
		group.Go(func() { told[n] = run(int64(n%6 + 1)) })
	}
	group.Wait()
	for n := range told {
		want(t, "what was told", told[n], run(int64(n%6+1)))
	}
}
