package file

import (
	"fmt"
	"math/rand"
	"slices"
	"testing"

	"matryoshka/api"
	"matryoshka/crc"
	"matryoshka/disk"
	"matryoshka/meta"
	"matryoshka/slot"
)

// blobOfMeta is the encoding of a valid meta as it is.
func blobOfMeta(t *testing.T, m api.Meta) []byte {
	t.Helper()
	b, errno := meta.Put(m)
	want(t, "the error of meta.Put", errno, api.OK)
	return b
}

// setSlot writes a slot into a sector of a file.
func setSlot(contents []byte, sector int, s api.Slot) {
	encoded, _ := slot.Put(s)
	copy(contents[sector*16:], encoded)
}

// setState writes a blob, and a slot that locates it, into a file.
func setState(contents []byte, sector, seq, start int, blob []byte) api.Slot {
	s := api.Slot{Seq: seq, Start: start, Count: len(blob), Sum: crc.Sum(blob)}
	copy(contents[start*16:], blob)
	setSlot(contents, sector, s)
	return s
}

// 16.1: the errors of disk.Size come first, then those of disk.Read, then that of a file which is too short.
func TestLoadOfNoFile(t *testing.T) {
	d := diskOf(t, pattern(9))
	for _, name := range []string{"", "g", "F", "ff", "f\x00", "a name of far more bytes than any may have"} {
		checkNoLoad(t, "no file of that name", d, name, api.ErrName)
	}
	checkNoLoad(t, "no disk", nil, "f", api.ErrNone)
	checkNoLoad(t, "no disk and no name", nil, "", api.ErrNone)
	for sectors := range 6 {
		d := diskOf(t, pattern(sectors))
		d.Power(1)
		d.Write("f", 0, make([]byte, 16))
		checkNoLoad(t, "no power", d, "f", api.ErrDead)
		checkNoLoad(t, "no power, no file", d, "g", api.ErrName)
		d.Crash(nil)
		checkNoLoad(t, "power again", d, "f", api.ErrForm)
	}
}

// 16.1: without power there is no state, although there was one, and is one after the crash.
func TestLoadWithoutPower(t *testing.T) {
	contents := pattern(9)
	s := setState(contents, 0, 5, 4, blobOfMeta(t, with(empty, 1, 1)))
	d := diskOf(t, contents)
	checkLoad(t, "with power", d, with(empty, 1, 1), s)
	d.Power(1)
	checkLoad(t, "as long as there is power", d, with(empty, 1, 1), s)
	d.Write("f", 8, make([]byte, 16))
	checkNoLoad(t, "without power", d, "f", api.ErrDead)
	d.Crash(nil)
	checkLoad(t, "with power again", d, with(empty, 1, 1), s)
}

// 16.1: a file of fewer than two sectors has no state, and one of two has no place for a blob.
func TestLoadOfShortFiles(t *testing.T) {
	whole := make([]byte, 4*16)
	one := setState(whole, 0, 1, 2, blobOfMeta(t, empty))
	setState(whole, 1, 2, 3, blobOfMeta(t, api.Meta{Size: 1}))
	for sectors := range 3 {
		checkNoLoad(t, fmt.Sprint(sectors, " sectors"), diskOf(t, whole[:sectors*16]), "f", api.ErrForm)
	}
	checkLoad(t, "3 sectors", diskOf(t, whole[:48]), empty, one)
}

// 16.1: bytes that are no slots.
func TestLoadOfNoSlot(t *testing.T) {
	for _, contents := range [][]byte{make([]byte, 32), make([]byte, 160), pattern(2), pattern(100), slices.Repeat([]byte{255}, 320)} {
		checkNoLoad(t, "no slot", diskOf(t, contents), "f", api.ErrForm)
	}
	// A slot counts in the first two sectors alone.
	contents := pattern(9)
	setState(contents, 2, 1, 5, blobOfMeta(t, empty))
	setState(contents, 8, 1, 5, blobOfMeta(t, empty))
	checkNoLoad(t, "slots behind", diskOf(t, contents), "f", api.ErrForm)
}

// 16.1: one slot, of any Seq, in either sector; its blob at any place.
func TestLoadOfOneSlot(t *testing.T) {
	for sector := range 2 {
		for _, seq := range []int{1, 2, 3, 77, 1<<31 - 1, 1 << 31} {
			for start := 2; start < 9; start++ {
				for _, m := range []api.Meta{empty, everything(), with(everything(), 1, 1, 9)} {
					contents := pattern(70)
					s := setState(contents, sector, seq, start, blobOfMeta(t, m))
					checkLoad(t, "one slot", diskOf(t, contents), m, s)
				}
			}
		}
	}
}

// 16.1: the meta is the one that is stored, with all its parts, and the counts that stand there, right or wrong.
func TestLoadReturnsTheWholeMeta(t *testing.T) {
	for _, m := range []api.Meta{
		everything(), with(everything(), 5, 0, 65535), with(everything(), make([]int, 65536)...), with(empty, 7), at(2, 3, 4), image(6, []api.Entry{raw(2, 64), packed(3, 63)}),
		{Back: "b"}, {Cluster: 6, Size: 64}, {Shots: []api.Shot{{Name: "s", Size: 9}}}, {Maps: []api.Bitmap{{Name: "m", On: true}}}, sized(1000),
	} {
		contents := pattern(400)
		s := setState(contents, 1, 8, 100, blobOfMeta(t, m))
		checkLoad(t, "a meta", diskOf(t, contents), m, s)
	}
}

// 16.1 with 6.3: of two slots that are usable the one with the greater Seq is taken, or the first one.
func TestLoadOfTwoSlots(t *testing.T) {
	first, second := with(api.Meta{Size: 1}, 1, 1), with(api.Meta{Size: 2}, 1)
	for _, seqs := range [][2]int{{1, 2}, {2, 1}, {3, 2}, {5, 5}, {1, 1 << 31}, {1 << 31, 1<<31 - 1}, {256, 255}, {65536, 65535}} {
		contents := pattern(9)
		a := setState(contents, 0, seqs[0], 3, blobOfMeta(t, first))
		b := setState(contents, 1, seqs[1], 6, blobOfMeta(t, second))
		if seqs[1] > seqs[0] {
			checkLoad(t, "the second", diskOf(t, contents), second, b)
		} else {
			checkLoad(t, "the first", diskOf(t, contents), first, a)
		}
	}
}

// unusable writes a slot into a sector of a file of 100 sectors, and a blob, which can't be used for one of these
// reasons; it can be if the reason is -1.
func unusable(t *testing.T, contents []byte, sector, seq, reason int) {
	t.Helper()
	m := with(api.Meta{Size: 64, T: tableOf(raw(99, 1))}, 1, 1, 0)
	blob := blobOfMeta(t, m)
	start := 20 + 40*sector
	s := setState(contents, sector, seq, start, blob)
	stored := contents[start*16:]
	switch reason {
	case 0:
		s.Start = 98 // the blob has more than two sectors
	case 1:
		s.Start, s.Count = 65536, 1
	case 2:
		s.Sum++
	case 3:
		s.Sum ^= 1 << 31
	case 4:
		s.Sum = crc.Sum(filled(slices.Clone(blob)))
	case 5:
		stored[0] ^= 1
	case 6:
		stored[len(blob)-1] ^= 0x80
	case 7:
		s.Count--
		s.Sum = crc.Sum(blob[:len(blob)-1])
	case 8:
		s.Count++
		stored[len(blob)] = 0
		s.Sum = crc.Sum(stored[:len(blob)+1])
	case 9:
		s.Count, s.Sum = 1, crc.Sum(blob[:1])
	case 10:
		stored[0] = 7 // no cluster is so large
		s.Sum = crc.Sum(stored[:len(blob)])
	case 11:
		m.T = tableOf(raw(100, 1))
		s = setState(contents, sector, seq, start, blobOfMeta(t, m))
	case 12:
		m.Shots = []api.Shot{{Name: "a", Size: 64, T: tableOf(raw(99, 1))}, {Name: "b", Size: 64, T: tableOf(zero, raw(65535, 1))}}
		s = setState(contents, sector, seq, start, blobOfMeta(t, m))
	case 13:
		m.Cluster, m.T = 2, tableOf(zero, packed(98, 3))
		s = setState(contents, sector, seq, start, blobOfMeta(t, m))
	case 14: // it is no slot at all
		clear(contents[sector*16 : sector*16+16])
		return
	}
	setSlot(contents, sector, s)
}

const reasons = 15

// 16.1: if a slot is not usable, for whatever reason, the other one is taken; if neither is, it is ErrForm.
func TestLoadOfSlotsThatAreNotUsable(t *testing.T) {
	m := with(everything(), 1, 1, 0)
	for reason := range reasons {
		for sector := range 2 {
			for _, seqs := range [][2]int{{8, 7}, {7, 8}, {8, 8}} {
				contents := pattern(100)
				unusable(t, contents, sector, seqs[0], reason)
				what := fmt.Sprintf("reason %d in sector %d, Seq %d", reason, sector, seqs[0])
				checkNoLoad(t, what, diskOf(t, contents), "f", api.ErrForm)
				s := setState(contents, 1-sector, seqs[1], 60-40*sector, blobOfMeta(t, m))
				checkLoad(t, what, diskOf(t, contents), m, s)
				for other := range reasons {
					unusable(t, contents, 1-sector, seqs[1], other)
					checkNoLoad(t, fmt.Sprint(what, ", and reason ", other), diskOf(t, contents), "f", api.ErrForm)
				}
			}
		}
	}
}

// 16.1: without a reason the same slots are usable.
func TestLoadOfTheSameSlotsThatAreUsable(t *testing.T) {
	for sector := range 2 {
		contents := pattern(100)
		unusable(t, contents, sector, 5, -1)
		m, s, errno := Load(diskOf(t, contents), "f")
		want(t, "the error", errno, api.OK)
		want(t, "the slot", api.Slot{Seq: s.Seq, Start: s.Start}, api.Slot{Seq: 5, Start: 20 + 40*sector})
		want(t, "the meta", m, with(api.Meta{Size: 64, T: tableOf(raw(99, 1))}, 1, 1, 0))
	}
}

// 16.1: a blob of any length may end with the last sector of the file, and not behind it.
func TestLoadOfBlobsAtTheEnd(t *testing.T) {
	for bytes := 19; bytes < 120; bytes++ {
		m := sized(bytes)
		for sectors := (bytes + 15) / 16; sectors < 12; sectors++ {
			contents := pattern(20 + sectors)
			s := setState(contents, 0, 1, 20, blobOfMeta(t, m))
			checkLoad(t, "within the file", diskOf(t, contents), m, s)
		}
		contents := pattern(20 + (bytes+15)/16)
		setState(contents, 0, 1, 20, blobOfMeta(t, m))
		checkNoLoad(t, "a sector too few", diskOf(t, contents[:len(contents)-16]), "f", api.ErrForm)
	}
}

// 16.1: the same at the end of the greatest file, and for the greatest blobs that a slot may tell of.
func TestLoadOfTheGreatestFile(t *testing.T) {
	m := with(at(65533, 2, 3), 1, 1)
	blob := blobOfMeta(t, m)
	sectors := (len(blob) + 15) / 16
	contents := pattern(most)
	s := setState(contents, 1, 2, most-sectors, blob)
	d := diskOf(t, contents)
	checkLoad(t, "within the file", d, m, s)
	for _, s := range []api.Slot{{Seq: 3, Start: 2, Count: api.MaxBlob}, {Seq: 3, Start: most, Count: 1}, {Seq: 3, Start: most, Count: api.MaxBlob}, {Seq: 3, Start: most - sectors + 1, Count: len(blob), Sum: s.Sum}} {
		setSlot(contents, 0, s)
		checkLoad(t, "beyond the file", diskOf(t, contents), m, api.Slot{Seq: 2, Start: most - sectors, Count: len(blob), Sum: crc.Sum(blob)})
	}
}

// 16.1: the sectors of an entry may end with the file, and not behind it; whatever table it is in, whatever its kind.
func TestLoadOfEntriesAtTheEnd(t *testing.T) {
	for cluster := range 7 {
		whole := 1 << cluster
		for _, e := range []api.Entry{raw(400-whole, whole), packed(400-whole+1, max(whole-1, 1)), packed(399, 1)} {
			if e.Kind == api.EntryPacked && e.Count >= whole {
				continue
			}
			many := slices.Repeat([]api.Entry{zero, {}, raw(2, whole)}, 10)
			for _, m := range []api.Meta{
				image(cluster, []api.Entry{e}), image(cluster, append(many, e)), image(cluster, append([]api.Entry{e}, many...)), image(cluster, nil, []api.Entry{e}),
				image(cluster, many, many, many, append(many, e)), image(cluster, many, []api.Entry{e}, many),
			} {
				contents := pattern(400)
				s := setState(contents, 1, 2, 100, blobOfMeta(t, with(m, 1, 1)))
				checkLoad(t, "within the file", diskOf(t, contents), with(m, 1, 1), s)
				checkLoad(t, "far within it", diskOf(t, append(contents, 1, 2, 3, 4, 5, 6, 7, 8, 9, 10, 11, 12, 13, 14, 15, 16)), with(m, 1, 1), s)
				checkNoLoad(t, "a sector too few", diskOf(t, contents[:399*16]), "f", api.ErrForm)
			}
		}
	}
}

// 16.1: entries may lie in the sectors of the blobs; Load doesn't ask what stands there.
func TestLoadOfEntriesInTheBlob(t *testing.T) {
	contents := pattern(30)
	m := with(at(2, 9, 10, 11), 9, 9)
	s := setState(contents, 0, 1, 9, blobOfMeta(t, m))
	checkLoad(t, "an entry in the blob", diskOf(t, contents), m, s)
}

// 16.1: Load changes nothing: neither what is read, nor what is durable.
func TestLoadChangesNothing(t *testing.T) {
	contents := pattern(60)
	older := setState(contents, 0, 1, 3, blobOfMeta(t, everything()))
	d := diskOf(t, contents)
	d.Create("g")
	d.Write("g", 0, pattern(3))
	newer := setState(contents, 1, 2, 50, blobOfMeta(t, empty))
	d.Write("f", 1, contents[16:32])
	d.Write("f", 50, contents[50*16:52*16])
	checkLoad(t, "what is not durable", d, empty, newer)
	checkBytes(t, "the file", d, contents)
	want(t, "the other file", bytesOf(t, d, "g"), pattern(3))
	want(t, "the sectors", d.Used(), 63)
	d.Power(4)
	checkLoad(t, "before the power fails", d, empty, newer)
	want(t, "three writes", d.Write("f", 0, contents[:48]), api.OK)
	d.Crash(nil)
	checkLoad(t, "what was durable", d, everything(), older)
	want(t, "the sectors then", d.Used(), 60)
}

// 16.1: of several files only that of the name counts.
func TestLoadOfSeveralFiles(t *testing.T) {
	d, _ := disk.New(room)
	for i := range 20 {
		name := fmt.Sprint("n", i)
		contents := pattern(30 + i)
		setState(contents, i%2, i+1, 4+i, blobOfMeta(t, api.Meta{Size: i}))
		d.Create(name)
		d.Write(name, 0, contents)
	}
	for i := range 20 {
		m, s, errno := Load(d, fmt.Sprint("n", i))
		want(t, "the state", fmt.Sprint(m.Size, s.Seq, s.Start, errno), fmt.Sprint(i, i+1, 4+i, api.OK))
	}
	checkNoLoad(t, "no file", d, "n20", api.ErrName)
}

// 16.1: any states, some of which are cut, turned or hidden, against the model.
func TestLoadOfAny(t *testing.T) {
	r := rand.New(rand.NewSource(2))
	found := [3]int{}
	for range 3000 {
		contents := pattern(r.Intn(90))
		for sector := range 2 {
			m := anyImage(r, 20+r.Intn(80))
			blob := blobOfMeta(t, with(m, make([]int, r.Intn(9))...))
			if start := 2 + r.Intn(60); start*16+len(blob) <= len(contents) {
				setState(contents, sector, 1+r.Intn(4), start, blob)
			}
		}
		if len(contents) > 0 && r.Intn(4) == 0 {
			contents[r.Intn(len(contents))] ^= 1 << r.Intn(8)
		}
		if len(contents) > 32 && r.Intn(4) == 0 {
			contents[r.Intn(32)] ^= 1 << r.Intn(8)
		}
		if len(contents) > 0 && r.Intn(6) == 0 {
			contents = contents[:r.Intn(len(contents)/16)*16]
		}
		d := diskOf(t, contents)
		m, s, errno := modelLoad(contents)
		if errno == api.OK {
			found[1+s.Seq%2]++
			checkLoad(t, "a state", d, m, s)
		} else {
			found[0]++
			checkNoLoad(t, "no state", d, "f", errno)
		}
	}
	for _, n := range found {
		want(t, "whether there were many", n > 300, true)
	}
}
