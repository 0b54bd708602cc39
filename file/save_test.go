package file

import (
	"fmt"
	"math"
	"math/rand"
	"slices"
	"testing"

	"matryoshka/api"
	"matryoshka/disk"
)

// full are the counts of a file that must not be overwritten anywhere, but in these sectors.
func full(free ...int) []int {
	kept := slices.Repeat([]int{1}, most)
	for _, sector := range free {
		kept[sector] = 0
	}
	return kept
}

// fromTo are the numbers from one on, below another.
func fromTo(from, to int) []int {
	var l []int
	for n := from; n < to; n++ {
		l = append(l, n)
	}
	return l
}

// noMetas are images that are not valid, whatever their counts are.
func noMetas() []api.Meta {
	return []api.Meta{
		{Size: -1}, {Size: 4097}, {Cluster: 7}, {Cluster: -1}, {Cluster: 1, Size: 3}, {Back: "/"}, {Size: 8, T: tableOf(raw(1, 1))}, {Size: 8, T: tableOf(raw(65536, 1))}, {T: tableOf(zero)}, {T: api.Table{L: make([][]api.Entry, 1)}},
		{Shots: make([]api.Shot, 9)}, {Shots: []api.Shot{{Name: ""}}}, {Shots: []api.Shot{{Name: "s"}, {Name: "s"}}}, {Shots: []api.Shot{{Name: "s", Size: 8, T: tableOf(raw(2, 2))}}},
		{Maps: []api.Bitmap{{Name: "m", L: []api.Span{{From: 1, To: 1}}}}}, {Maps: []api.Bitmap{{Name: "m", L: []api.Span{{From: 1, To: 4097}}}}}, {Size: math.MinInt}, {Cluster: math.MaxInt},
	}
}

// withState is a disk with a file of this many sectors and a state, some of whose writes are not durable.
func withState(t *testing.T, sectors int) (*disk.Disk, api.Slot) {
	t.Helper()
	contents := pattern(sectors)
	s := setState(contents, 1, 6, 4, blobOfMeta(t, with(at(3), 1, 1)))
	d := diskOf(t, contents)
	want(t, "the error of Write", d.Write("f", sectors-1, make([]byte, 16)), api.OK)
	return d, s
}

// checkRefused is that Save returns an error, and nothing beside it, and that nothing has changed, neither what is read
// nor what is durable.
func checkRefused(t *testing.T, what string, d *disk.Disk, name string, m api.Meta, last api.Slot, kept []int, wanted api.Errno) {
	t.Helper()
	state := loaded(d)
	b, used := bytesOf(t, d, "f"), d.Used()
	fallen := d.Copy()
	fallen.Crash(nil)
	got, errno := Save(d, name, m, last, kept)
	want(t, what+": the error", errno, wanted)
	want(t, what+": the slot", got, none)
	want(t, what+": the state", loaded(d), state)
	checkBytes(t, what, d, b)
	want(t, what+": the sectors", d.Used(), used)
	after := d.Copy()
	after.Crash(nil)
	checkBytes(t, what+": what is durable", after, bytesOf(t, fallen, "f"))
}

// 16.2: no power is the first of all errors; nothing has changed when there is power again.
func TestSaveWithoutPower(t *testing.T) {
	for _, name := range []string{"f", "g", ""} {
		for _, m := range append(noMetas(), empty, with(empty, -1)) {
			for _, last := range []api.Slot{none, {Seq: 1 << 31}, {Seq: math.MaxInt}, {Seq: -1}} {
				d, s := withState(t, 40)
				before := bytesOf(t, d, "f")
				d.Power(1)
				d.Write("f", 0, make([]byte, 16))
				got, errno := Save(d, name, m, last, full())
				want(t, "the error", errno, api.ErrDead)
				want(t, "the slot", got, none)
				d.Crash([]bool{true})
				checkBytes(t, "the file", d, before)
				checkLoad(t, "the state", d, with(at(3), 1, 1), s)
			}
		}
	}
}

// 16.2: a meta that has no encoding comes ahead of a file that isn't there, of a Seq, a place and room.
func TestSaveOfMetasThatAreNotValid(t *testing.T) {
	for _, m := range noMetas() {
		d, s := withState(t, 40)
		for _, m := range []api.Meta{m, with(m, 1, 1), with(m, -1)} {
			checkRefused(t, "no meta", d, "f", m, none, nil, api.ErrArg)
			checkRefused(t, "no meta, no file", d, "g", m, s, nil, api.ErrArg)
			checkRefused(t, "no meta, no place", d, "f", m, s, full(), api.ErrArg)
			checkRefused(t, "no meta, a Seq", d, "g", m, api.Slot{Seq: 1 << 31}, full(), api.ErrArg)
			got, errno := Save(nil, "f", m, none, nil)
			want(t, "no disk", fmt.Sprint(got, errno), fmt.Sprint(none, api.ErrArg))
		}
	}
}

// 16.2: a file that isn't there comes ahead of a Seq, a place and room.
func TestSaveOfNoFile(t *testing.T) {
	d, s := withState(t, 40)
	for _, name := range []string{"", "g", "F", "ff", "a name of far more bytes than any may have"} {
		checkRefused(t, "no file", d, name, everything(), s, nil, api.ErrName)
		checkRefused(t, "no file, no place", d, name, empty, s, full(), api.ErrName)
		checkRefused(t, "no file, a Seq, no place", d, name, empty, api.Slot{Seq: 1 << 31}, full(), api.ErrName)
	}
	for _, last := range []api.Slot{none, {Seq: 1 << 31}} {
		got, errno := Save(nil, "f", empty, last, nil)
		want(t, "no disk", fmt.Sprint(got, errno), fmt.Sprint(none, api.ErrNone))
	}
}

// 16.2: a Seq above 2^31, from last or from a slot of the file, comes ahead of a place and of room.
func TestSaveOfSeqsThatAreTooGreat(t *testing.T) {
	for _, seq := range []int{1 << 31, 1<<31 + 1, 1 << 40, math.MaxInt - 1, math.MaxInt} {
		d, s := withState(t, 40)
		checkRefused(t, "a Seq", d, "f", empty, api.Slot{Seq: seq}, nil, api.ErrArg)
		checkRefused(t, "a Seq, no place", d, "f", empty, api.Slot{Seq: seq, Start: s.Start, Count: s.Count}, full(), api.ErrArg)
		last := api.Slot{Seq: 1<<31 - 1}
		saved := checkSave(t, "a Seq just so", d, empty, last, fromTo(1, 41))
		want(t, "the Seq", saved.Seq, 1<<31)
		for _, last := range []api.Slot{none, s, saved, {Seq: 1}} {
			checkRefused(t, "a Seq of the file", d, "f", empty, last, nil, api.ErrArg)
			checkRefused(t, "a Seq of the file, no place", d, "f", empty, last, full(), api.ErrArg)
		}
	}
	// In either sector.
	for sector := range 2 {
		contents := pattern(30)
		setState(contents, sector, 1<<31, 9, []byte{1})
		setState(contents, 1-sector, 5, 20, blobOfMeta(t, empty))
		checkRefused(t, "a Seq of a sector", diskOf(t, contents), "f", empty, api.Slot{Seq: 5, Start: 20, Count: 13}, full(), api.ErrArg)
	}
}

// 16.2 with 6.1: no slot has a Seq below 1; that is no error which 16.2 names, so it comes behind all others.
func TestSaveOfSeqsThatAreTooSmall(t *testing.T) {
	for _, seq := range []int{-1, -2, -1 << 31, math.MinInt + 1, math.MinInt} {
		for sectors := range 4 {
			checkRefused(t, "a Seq", diskOf(t, pattern(sectors)), "f", empty, api.Slot{Seq: seq}, nil, api.ErrArg)
			checkRefused(t, "a Seq, no place", diskOf(t, pattern(sectors)), "f", empty, api.Slot{Seq: seq}, full(), api.ErrSpace)
		}
		d, s := withState(t, 40)
		want(t, "beside that of the file", checkSave(t, "a Seq", d, empty, api.Slot{Seq: seq, Start: 3, Count: 99}, fromTo(1, 12)).Seq, s.Seq+1)
		d, _ = withState(t, 40)
		want(t, "the place behind the blob", checkSave(t, "a Seq", d, empty, api.Slot{Seq: seq, Start: 2, Count: 99}, nil).Start, 9)
	}
}

// 16.2: no place comes ahead of no room.
func TestSaveWithoutAPlace(t *testing.T) {
	d, s := withState(t, 40)
	for _, kept := range [][]int{full(), append(full(), 0, 0, 0, 0, 0), full(0, 1), full(2), full(65535), full(2, 4, 6, 8, 10, 65533, 65535), full(fromTo(3, 14)...)} {
		checkRefused(t, "no place", d, "f", empty, s, kept, api.ErrSpace)
	}
	// Where the entries of an image and its blob leave no place.
	checkRefused(t, "an entry in the way", d, "f", at(65534), s, full(65533, 65534, 65535), api.ErrSpace)
	checkRefused(t, "a shot's in the way", d, "f", image(0, nil, nil, []api.Entry{zero, raw(31, 1)}), none, full(fromTo(30, 41)...), api.ErrSpace)
	checkRefused(t, "last in the way", d, "f", empty, api.Slot{Seq: 1, Start: 2, Count: 65533 * 16}, nil, api.ErrSpace)
	checkRefused(t, "last in the way, and more", d, "f", empty, api.Slot{Seq: 1, Start: 2, Count: math.MaxInt}, nil, api.ErrSpace)
	want(t, "where it ends", checkSave(t, "last not all in the way", d, empty, api.Slot{Seq: 1, Start: 4, Count: math.MaxInt}, nil).Start, 2)
}

// 16.2: no room on the disk; the file, the others and their sectors stay as they are.
func TestSaveWithoutRoom(t *testing.T) {
	for room := 30; room < 60; room++ {
		d, _ := disk.New(room)
		d.Create("f")
		d.Create("g")
		contents := pattern(20)
		last := setState(contents, 0, 1, 3, blobOfMeta(t, at(2)))
		want(t, "the error of Write", d.Write("f", 0, contents)+d.Write("g", 0, pattern(10))+d.Flush("f")+d.Flush("g"), api.OK)
		if room < 40 {
			checkRefused(t, "no room", d, "f", sized(9*16+3), last, fromTo(1, 21), api.ErrSpace)
			want(t, "the other file", bytesOf(t, d, "g"), pattern(10))
			continue
		}
		checkSave(t, "room", d, sized(9*16+3), last, fromTo(1, 21))
		want(t, "the sectors", d.Used(), 40)
		checkRefused(t, "no room for the next one", d, "f", sized(32*16), last, fromTo(1, 31), api.ErrSpace)
	}
}

// 16.2: within the file a disk that is full has room.
func TestSaveOnAFullDisk(t *testing.T) {
	d, _ := disk.New(30)
	d.Create("f")
	d.Write("f", 0, make([]byte, 30*16))
	last := none
	for i := range 40 {
		last = checkSave(t, "a full disk", d, sized(19+i%50), last, fromTo(0, 3))
	}
	checkRefused(t, "no room behind it", d, "f", empty, last, fromTo(1, 31), api.ErrSpace)
}

// 16.2: the counts of the image are not looked at.
func TestSaveIgnoresCounts(t *testing.T) {
	for _, counts := range [][]int{nil, {}, {1, 1, 9}, {-1}, {65536}, {math.MaxInt, math.MinInt}, make([]int, 65537), fromTo(0, 100)} {
		for _, m := range []api.Meta{empty, everything()} {
			d, last := withState(t, 70)
			s := checkSave(t, "counts", d, with(m, counts...), last, []int{2: 7, 5: -1})
			other, last := withState(t, 70)
			want(t, "the slot", checkSave(t, "no counts", other, m, last, []int{2: 7, 5: -1}), s)
			checkLoad(t, "the state", d, with(m, modelCounts(m, 70)...), s)
		}
	}
}

// 16.2: the Seq is 1 more than the greatest one of last and of the two slots of the file, usable or not.
func TestSeq(t *testing.T) {
	seqs := []int{0, 1, 2, 3, 4, 500, 501, 1<<31 - 2, 1<<31 - 1}
	for _, first := range seqs {
		for _, second := range seqs {
			for _, of := range seqs {
				contents := pattern(50)
				for sector, seq := range []int{first, second} {
					if seq > 0 {
						setSlot(contents, sector, api.Slot{Seq: seq, Start: 40, Count: 99, Sum: 5})
					}
				}
				d := diskOf(t, contents)
				s := checkSave(t, "a Seq", d, everything(), api.Slot{Seq: of, Start: 45, Count: 20}, nil)
				want(t, "the Seq", s.Seq, 1+max(first, second, of))
				b := bytesOf(t, d, "f")
				odd := s.Seq%2 == 1
				want(t, "whether the first sector is the slot's", string(b[:16]) != string(contents[:16]), odd)
				want(t, "whether the second sector is the slot's", string(b[16:32]) != string(contents[16:32]), !odd)
			}
		}
	}
}

// 16.2: a file with fewer than two sectors has no slots; it grows.
func TestSaveInShortFiles(t *testing.T) {
	contents := make([]byte, 16)
	setSlot(contents, 0, api.Slot{Seq: 7, Start: 2, Count: 1})
	for _, m := range []api.Meta{empty, everything(), at(2), at(3), sized(64)} {
		for _, last := range []api.Slot{none, {Seq: 1, Start: 2, Count: 17}, {Seq: 8, Start: 4, Count: 1}} {
			for sectors := range 2 {
				d := diskOf(t, contents[:sectors*16])
				s := checkSave(t, "a short file", d, m, last, nil)
				want(t, "the Seq", s.Seq, last.Seq+1)
			}
			d := diskOf(t, append(slices.Clone(contents), make([]byte, 16)...))
			s := checkSave(t, "a file of two sectors", d, m, last, nil)
			want(t, "the Seq", s.Seq, 1+max(last.Seq, 7))
		}
	}
	d := diskOf(t, nil)
	checkSave(t, "an empty file", d, at(9), none, nil)
	want(t, "the sectors", d.Used(), 10+10)
}

// 16.2: what is locked up by the counts that are handed in, at any sector, whatever they are.
func TestPlaceBesideWhatIsKept(t *testing.T) {
	for _, n := range []int{1, 2, -1, 65535, 65536, math.MaxInt, math.MinInt} {
		for sector := range 20 {
			kept := make([]int, sector+1)
			kept[sector] = n
			d := diskOf(t, pattern(12))
			s := checkSave(t, "one sector is kept", d, empty, none, kept)
			wanted := 2
			if sector == 2 || sector == 3 {
				wanted = sector + 1
			}
			want(t, "the place", s.Start, wanted)
		}
		// A count and the same number below 0 of sectors that are used anyway don't make 0.
		d := diskOf(t, pattern(12))
		want(t, "the place", checkSave(t, "counts that would add up to none", d, at(2, 3, 3), none, []int{2: -1, 3: -2}).Start, 4)
		want(t, "the place", checkSave(t, "counts of the slots", d, empty, none, []int{-1, -1, n, n}).Start, 4)
	}
	for _, c := range []struct{ sectors, place int }{{0, 5}, {2, 5}, {4, 5}, {5, 5}, {6, 5}, {30, 5}, {31, 5}} {
		want(t, "the place", checkSave(t, "kept", diskOf(t, pattern(c.sectors)), empty, none, []int{2: 1, 4: 1}).Start, c.place)
	}
	want(t, "the place", checkSave(t, "longer than any file", diskOf(t, pattern(9)), empty, none, append(make([]int, most), fromTo(1, 5)...)).Start, 2)
}

// 16.2: what the image and its shots use.
func TestPlaceBesideEntries(t *testing.T) {
	for sector := 2; sector < 20; sector++ {
		for _, m := range []api.Meta{at(sector), at(sector, sector), image(0, nil, []api.Entry{raw(sector, 1)}), image(0, nil, nil, nil, []api.Entry{zero, {}, raw(sector, 1)})} {
			checkSave(t, "an entry", diskOf(t, pattern(40)), m, none, nil)
			checkSave(t, "an entry beyond the end", diskOf(t, pattern(2)), m, none, nil)
		}
		for cluster := range 4 {
			want(t, "the place", checkSave(t, "entries", diskOf(t, pattern(60)), image(cluster, []api.Entry{raw(2, 1<<cluster), raw(2+1<<cluster, 1<<cluster)}), none, nil).Start, 2+2<<cluster)
		}
		checkSave(t, "packed", diskOf(t, pattern(60)), image(3, []api.Entry{packed(sector, 5), packed(sector, 7), packed(sector+7, 1)}), none, nil)
	}
}

// 16.2: the blob of last, but of none if its Seq is 0.
func TestPlaceBesideTheLastBlob(t *testing.T) {
	for start := -3; start < 20; start++ {
		for _, count := range []int{-17, -16, -1, 0, 1, 15, 16, 17, 31, 32, 33, 64, 65, 96, 97} {
			for _, seq := range []int{0, 1, 5} {
				d := diskOf(t, pattern(15))
				s := checkSave(t, "the last blob", d, empty, api.Slot{Seq: seq, Start: start, Count: count}, nil)
				if sectors := (count + 15) / 16; seq == 0 || start+sectors < 3 || start > 3 || count < 1 {
					want(t, "the place beside it", s.Start, 2)
				} else {
					want(t, "the place behind it", s.Start, start+sectors)
				}
			}
		}
	}
	for _, a := range farNumbers {
		for _, b := range farNumbers {
			checkSave(t, "numbers", diskOf(t, pattern(15)), empty, api.Slot{Seq: 3, Start: a, Count: 99}, []int{3: 1})
			checkSave(t, "numbers", diskOf(t, pattern(15)), empty, api.Slot{Seq: 3, Start: a, Count: min(b, most*16)}, []int{3: 1})
		}
	}
}

// 16.2: the last blob may be beyond the end, or end there.
func TestPlaceBesideTheLastBlobAtTheEnd(t *testing.T) {
	for _, last := range []api.Slot{{Seq: 3, Start: 65530, Count: 96}, {Seq: 3, Start: 65530, Count: 97}, {Seq: 3, Start: 65530, Count: math.MaxInt}, {Seq: 3, Start: 65535, Count: 1}, {Seq: 3, Start: 65536, Count: 1}, {Seq: 3, Start: math.MaxInt, Count: math.MaxInt}} {
		checkSave(t, "at the end", diskOf(t, pattern(15)), empty, last, nil)
		if last.Start < 65535 {
			want(t, "the place", checkSave(t, "ahead of it", diskOf(t, pattern(15)), empty, last, full(fromTo(65528, 65536)...)).Start, 65528)
			checkRefused(t, "no place ahead of it", diskOf(t, pattern(15)), "f", empty, last, full(fromTo(65529, 65536)...), api.ErrSpace)
		}
		if last.Start < 65536 {
			checkRefused(t, "the last sector", diskOf(t, pattern(15)), "f", empty, last, full(65534, 65535), api.ErrSpace)
		}
	}
}

// 16.2: a place of each length, for blobs of each length.
func TestPlaceOfEachLength(t *testing.T) {
	for bytes := 19; bytes < 120; bytes++ {
		// Two runs of counts are added, and nothing else is in the file.
		sectors := (bytes + 8 + 15) / 16
		for length := 1; length < 10; length++ {
			kept := slices.Repeat([]int{1}, 30)
			clear(kept[11 : 11+length])
			s := checkSave(t, "a place", diskOf(t, pattern(30)), sized(bytes), none, kept)
			if length >= sectors {
				want(t, "the place", s.Start, 11)
			} else {
				want(t, "the place behind", s.Start, 30)
			}
			want(t, "the bytes", s.Count, bytes+8)
		}
	}
}

// 16.2: places one after the other, each of which is larger by a sector than the one ahead of it.
func TestPlaceOfSeveral(t *testing.T) {
	var kept []int
	for length := range 12 {
		kept = append(append(kept, 1), make([]int, length)...)
	}
	for bytes := 19; bytes < 300; bytes++ {
		checkSave(t, "several places", diskOf(t, pattern(40)), sized(bytes), none, kept)
		checkSave(t, "several places beyond the end", diskOf(t, nil), sized(bytes), none, kept)
		reversed := slices.Clone(kept)
		slices.Reverse(reversed)
		checkSave(t, "places that become smaller", diskOf(t, pattern(90)), sized(bytes), none, reversed)
	}
}

// spread is an image with an entry in every k-th sector from one on, below another.
func spread(from, to, k int) api.Meta {
	var l []int
	for sector := from; sector < to; sector += k {
		l = append(l, sector)
	}
	return at(l...)
}

// 16.2: a blob grows as s does, since more counts are in it: it may be too long for a place beyond the end that it
// would fit with the counts of a file that ends ahead of it.
func TestPlaceOfBlobsThatGrow(t *testing.T) {
	for _, k := range []int{2, 3, 4, 5, 7, 11, 13, 17, 29} {
		for _, size := range []int{0, 20, 60} {
			m := spread(12, 300, k)
			checkSave(t, "entries beyond the end", diskOf(t, pattern(size)), m, none, nil)
			for back := range 17 {
				m := spread(12+back, 70, k)
				m.Back = "bbbbbbbbbbbbbbbb"[:back]
				checkSave(t, "entries here and there", diskOf(t, pattern(size)), m, none, []int{9: 1, 30: 2})
			}
		}
	}
	// The last sectors of the blob itself are in its counts: with 2 runs it would have 32 bytes, with 3 it has 36.
	m := sized(24)
	m.Size, m.T = 64, tableOf(raw(4, 1))
	for bytes := range 17 {
		m.Back = "bbbbbbbbbbbbbbbb"[:bytes]
		checkSave(t, "an entry behind it", diskOf(t, nil), m, none, nil)
		checkSave(t, "a sector behind it", diskOf(t, nil), m, none, []int{14: 1})
	}
}

// 16.2: the counts are those of the whole file, or of all up to the end of the blob, if that is farther.
func TestCountsOfTheBlob(t *testing.T) {
	for size := range 60 {
		for start := 2; start < 50; start += 5 {
			m := at(5, 58)
			m.T.L[0][2] = zero
			d := diskOf(t, pattern(size))
			kept := slices.Repeat([]int{1}, start)
			s := checkSave(t, "a file", d, m, none, kept)
			stored, _, _ := modelUsableAt(d, s)
			want(t, "how many counts", len(stored.Counts), max(size, s.Start+(s.Count+15)/16))
			want(t, "the counts", stored.Counts, modelCounts(m, len(stored.Counts)))
		}
	}
}

// modelUsableAt is what a slot of f locates, whether it is usable or not.
func modelUsableAt(d *disk.Disk, s api.Slot) (api.Meta, bool, api.Errno) {
	size, _ := d.Size("f")
	b, errno := d.Read("f", 0, size)
	m, ok := modelUsable(b, s)
	return m, ok, errno
}

// 16.2: at the end of the greatest file, and behind the end of one that can't grow any more.
func TestPlaceAtTheEndOfTheGreatestFile(t *testing.T) {
	for _, m := range []api.Meta{empty, at(9), sized(55), sized(56), sized(57)} {
		sectors := (len(blobOfMeta(t, with(m, modelCounts(m, most)...))) + 15) / 16
		start := most - sectors
		for _, size := range []int{0, 9, start, start + 1, most - 1, most} {
			d := diskOf(t, pattern(size))
			checkRefused(t, "a sector too few", d, "f", m, none, full(fromTo(start+1, most)...), api.ErrSpace)
			want(t, "the place", checkSave(t, "at the end", d, m, none, full(fromTo(start, most)...)).Start, start)
			d = diskOf(t, pattern(size))
			checkRefused(t, "too few ahead of the last sector", d, "f", m, none, full(fromTo(start, most-1)...), api.ErrSpace)
			want(t, "the place", checkSave(t, "ahead of the last sector", d, m, none, full(fromTo(start-1, most-1)...)).Start, start-1)
		}
	}
	for entry := most - 20; entry < most; entry++ {
		for first := most - 24; first < most-10; first += 3 {
			checkSave(t, "an entry at the end", diskOf(t, nil), at(entry), none, full(fromTo(first, most)...))
		}
	}
}

// 16.2: nothing but the last sectors is free, and the counts are as many as they may be.
func TestPlaceInTheGreatestFile(t *testing.T) {
	d := diskOf(t, pattern(most))
	last := none
	for i := range 6 {
		last = checkSave(t, "the greatest file", d, spread(3, 4000, 2+i), last, full(fromTo(60000-i*100, 65000)...))
	}
	checkRefused(t, "no place", d, "f", empty, last, full(), api.ErrSpace)
	checkLoad(t, "the state", d, with(spread(3, 4000, 7), modelCounts(spread(3, 4000, 7), most)...), last)
}

// 16.2: the place of the longest blob that there is: 9 tables of 4096 entries, and bitmaps of 2048 spans.
func TestPlaceOfTheLongestBlob(t *testing.T) {
	m := image(0, slices.Repeat([]api.Entry{raw(2, 1)}, 4096), slices.Repeat([][]api.Entry{slices.Repeat([]api.Entry{raw(3, 1)}, 4096)}, 8)...)
	for i := range 8 {
		m.Maps = append(m.Maps, api.Bitmap{Name: fmt.Sprint(i), L: sized(19 + 2047*4).Maps[0].L})
	}
	d := diskOf(t, pattern(9))
	s := checkSave(t, "a long blob", d, m, none, []int{7: 1})
	want(t, "the place", s.Start, 8)
	want(t, "whether it is long", s.Count > 600000, true)
	next := checkSave(t, "a short one", d, empty, s, nil)
	want(t, "the place", next.Start, 2)
	checkRefused(t, "no place for a long one", d, "f", m, api.Slot{Seq: 1, Start: 30000, Count: 1}, nil, api.ErrSpace)
}

// 16.2: many places that are too small take no long time, whatever they are like.
func TestPlaceAmongManyThatAreTooSmall(t *testing.T) {
	for gap := 1; gap < 6; gap++ {
		kept := make([]int, most)
		for sector := 0; sector < most-20; sector += gap + 1 {
			kept[sector] = 1
		}
		checkSave(t, "places of one length", diskOf(t, nil), sized(16*5), none, kept)
		checkSave(t, "places of one length", diskOf(t, nil), spread(3, 30000, 11), none, kept)
	}
	// Each place is larger by a sector than the one ahead of it, and what is between adds runs of counts.
	var kept, own []int
	for length := 1; len(kept) < 40000 && len(own) < 4000; length++ {
		kept = append(append(kept, 1), make([]int, length)...)
		for range min(length, 12) {
			kept = append(kept, 1, 1)
			own = append(own, len(kept)-1)
		}
	}
	checkSave(t, "places that become larger", diskOf(t, nil), at(own...), none, kept)
	checkSave(t, "places that become larger", diskOf(t, nil), at(own[len(own)-100:]...), none, kept)
}

// 16.2: any images in any files, with anything kept, against the model; the state is what was stored.
func TestSaveOfAny(t *testing.T) {
	r := rand.New(rand.NewSource(3))
	fails, usable := 0, 0
	for range 600 {
		d := diskOf(t, pattern(r.Intn(120)))
		last := none
		for range 4 {
			m := anyImage(r, 20+r.Intn(100))
			kept := make([]int, r.Intn(200))
			for range r.Intn(40) {
				if len(kept) > 0 {
					kept[r.Intn(len(kept))] = r.Intn(3) - 1
				}
			}
			s := checkSave(t, "any", d, m, last, kept)
			wanted, located, errno := modelLoad(bytesOf(t, d, "f"))
			if errno == api.OK {
				usable++
				checkLoad(t, "the state", d, wanted, located)
			} else {
				fails++
				checkNoLoad(t, "no state", d, "f", errno)
			}
			if last = s; r.Intn(4) == 0 {
				last = api.Slot{Seq: r.Intn(9), Start: r.Intn(40) - 4, Count: r.Intn(400)}
			}
		}
	}
	want(t, "whether there were many", usable > 300 && fails > 50, true)
}
