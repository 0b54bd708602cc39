package image_test

import (
	"bytes"
	"fmt"
	"testing"

	"matryoshka/api"
	"matryoshka/crc"
	"matryoshka/disk"
	"matryoshka/image"
	"matryoshka/lz"
	"matryoshka/shots"
)

// checkPut is that Put succeeds, that the cluster is read so then, and what becomes its entry.
func checkPut(t *testing.T, what string, i *image.Image, k int, b []byte, wanted api.Entry) {
	t.Helper()
	must(t, what, i.Put(k, b))
	want(t, what+": the entry", entryAt(i, k), wanted)
	checkOwn(t, what, i, "", k, b, wanted.Kind, api.OK)
}

// raw is the entry of contents that are stored as they are.
func raw(start int, b []byte) api.Entry {
	return api.Entry{Kind: api.EntryRaw, Start: start, Count: len(b) / 16, Sum: crc.Sum(b)}
}

// packed is the entry of contents that are stored packed.
func packed(start int, b []byte) api.Entry {
	n := len(lz.Pack(b))
	return api.Entry{Kind: api.EntryPacked, Start: start, Count: (n + 15) / 16, Size: n, Sum: crc.Sum(b)}
}

// 17.3: the errors, of which ErrRange comes ahead of ErrArg; nothing is changed.
func TestPutRefused(t *testing.T) {
	for cluster := range 7 {
		d, i := created(t, cluster, 4<<cluster)
		must(t, "Put", i.Put(1, big(cluster, 1)))
		addMap(t, i, "m", true)
		whole := 16 << cluster
		for _, k := range append([]int{4, 5, 8, 4096}, farNumbers...) {
			for _, b := range [][]byte{nil, {}, big(cluster, 1), make([]byte, whole), make([]byte, whole-1), make([]byte, whole+1)} {
				checkKeeps(t, "no such cluster", d, i, api.ErrRange, func() api.Errno { return i.Put(k, b) })
			}
		}
		for _, n := range []int{0, 1, 15, whole - 16, whole - 1, whole + 1, whole + 16, 2 * whole, 1 << 20} {
			for _, b := range [][]byte{make([]byte, n), noise(n+1, 1)[:n]} {
				for k := range 4 {
					checkKeeps(t, "a wrong length", d, i, api.ErrArg, func() api.Errno { return i.Put(k, b) })
				}
			}
		}
	}
	_, i := created(t, 0, 0)
	want(t, "an image without clusters", i.Put(0, c("a")), api.ErrRange)
}

// 17.3: all zeros become EntryZero, and no sectors; any other byte is none of it.
func TestPutOfZeros(t *testing.T) {
	for cluster := range 7 {
		d, i := created(t, cluster, 4<<cluster)
		zeros, before := make([]byte, 16<<cluster), bytesOf(t, d)
		checkPut(t, "into no contents", i, 0, zeros, api.Entry{Kind: api.EntryZero})
		want(t, "the file", bytes.Equal(bytesOf(t, d), before), true)
		must(t, "Put, Zero", i.Put(1, big(cluster, 1)), i.Zero(2))
		checkPut(t, "into contents", i, 1, zeros, api.Entry{Kind: api.EntryZero})
		checkPut(t, "into zeros", i, 2, zeros, api.Entry{Kind: api.EntryZero})
		want(t, "the counts", i.Meta().Counts[2:], make([]int, len(i.Meta().Counts)-2))
		for _, at := range []int{0, 1, 7, 15, len(zeros) / 2, len(zeros) - 1} {
			b := make([]byte, len(zeros))
			b[at] = 1
			must(t, "Put", i.Put(3, b))
			want(t, "whether they are zeros", entryAt(i, 3).Kind >= api.EntryRaw, true)
			checkOwn(t, "one byte", i, "", 3, b, entryAt(i, 3).Kind, api.OK)
		}
	}
}

// 17.3: contents that need fewer sectors packed than a cluster has, if only one, are stored so; the others as they are.
func TestPutOfWhatCanBePacked(t *testing.T) {
	for cluster := 1; cluster < 7; cluster++ {
		whole := 16 << cluster
		for _, n := range []int{12, 16, 17, 32, whole - 33, whole - 32, whole - 31, whole - 17, whole - 16, whole - 15, whole - 14, whole - 1, whole, whole + 1} {
			b, ok := packing(cluster, n, 5)
			if !ok {
				continue
			}
			d, i := created(t, cluster, 4<<cluster)
			what := fmt.Sprintf("cluster %d, packed to %d bytes", cluster, n)
			if n <= whole-16 {
				checkPut(t, what, i, 2, b, packed(4, b))
				stored, _ := d.Read("f", 4, (n+15)/16)
				want(t, what+": the sectors", fmt.Sprintf("%x", stored[:n]), fmt.Sprintf("%x", lz.Pack(b)))
			} else {
				checkPut(t, what, i, 2, b, raw(4, b))
				stored, _ := d.Read("f", 4, 1<<cluster)
				want(t, what+": the sectors", fmt.Sprintf("%x", stored), fmt.Sprintf("%x", b))
			}
		}
		for _, n := range []int{whole - 16, whole - 15} {
			_, ok := packing(cluster, n, 5)
			want(t, fmt.Sprint("whether something is packed to ", n, " bytes"), ok, true)
		}
	}
	_, i := created(t, 0, 4)
	checkPut(t, "a cluster of one sector", i, 0, c("a"), raw(4, c("a")))
}

// 17.3: equal contents have one entry, in the image's own table and in a shot.
func TestPutOfKnownContents(t *testing.T) {
	for cluster := range 7 {
		for _, b := range [][]byte{big(cluster, 1), small(cluster, 2)} {
			d, i := created(t, cluster, 8<<cluster)
			must(t, "Put", i.Put(0, b))
			e, before := entryAt(i, 0), bytesOf(t, d)
			checkPut(t, "into another", i, 3, b, e)
			checkPut(t, "into the same", i, 0, b, e)
			want(t, "the file", bytes.Equal(bytesOf(t, d), before), true)
			must(t, "Clear", i.Clear(0), i.Flush())
			checkPut(t, "behind a flush", i, 1, b, e)
			takeShot(t, i, "s")
			must(t, "Zero", i.Zero(1), i.Clear(3))
			checkPut(t, "of a shot alone", i, 7, b, e)
			must(t, "Clear, Flush, Clear", i.Clear(7), i.Flush(), i.Put(7, b), i.Clear(7))
			checkPut(t, "of a shot alone, flushed", i, 6, b, e)
		}
	}
}

// 17.3: contents that no state contains any more are stored anew, though the index knows them, and though the flushed
// state has them still.
func TestPutOfWhatIsContainedNoMore(t *testing.T) {
	_, i := created(t, 0, 8)
	must(t, "Put, Put", i.Put(0, c("a")), i.Put(0, c("b")))
	want(t, "where it stands", starts(i, 1), []int{5})
	checkPut(t, "where it was", i, 1, c("a"), raw(4, c("a")))
	must(t, "Flush, Clear", i.Flush(), i.Clear(1))
	checkPut(t, "of the flushed state alone", i, 2, c("a"), raw(2, c("a")))
	takeShot(t, i, "s")
	must(t, "Clear", i.Clear(2))
	m, errno := shots.Drop(i.Meta(), "s")
	must(t, "Turn", errno, i.Turn(m), i.Put(3, c("d")))
	want(t, "in its place", starts(i, 4), []int{5, 0, 0, 2})
	checkPut(t, "of a shot that was dropped", i, 2, c("a"), raw(3, c("a")))
	checkPut(t, "known again", i, 7, c("a"), raw(3, c("a")))
}

// 17.3: of entries that the index finds, those are passed over that are contained no more.
func TestPutOfSeveralEntries(t *testing.T) {
	_, i := created(t, 0, 8)
	must(t, "Put, Clear", i.Put(0, c("a")), i.Put(1, c("b")), i.Flush(), i.Clear(0))
	// Now 4 is in use by the flushed state alone.
	checkPut(t, "a second entry", i, 2, c("a"), raw(2, c("a")))
	checkPut(t, "the second one", i, 3, c("a"), raw(2, c("a")))
}

// 17.3: of two entries for equal contents that are both contained, the one that was stored first is used.
func TestPutTakesTheFirstEntry(t *testing.T) {
	d, i := created(t, 0, 8)
	must(t, "Put", i.Put(0, c("a")))
	// While its sector holds something else, the contents are stored a second time.
	before, _ := d.Read("f", 4, 1)
	must(t, "disk.Write", d.Write("f", 4, c("?")))
	checkPut(t, "a second entry", i, 1, c("a"), raw(5, c("a")))
	checkPut(t, "the second one", i, 2, c("a"), raw(5, c("a")))
	must(t, "disk.Write", d.Write("f", 4, before))
	checkPut(t, "the first one", i, 3, c("a"), raw(4, c("a")))
}

// 17.3: contents that the file holds no more are stored anew: written over, cut off, or lost in a crash.
func TestPutOfWhatTheFileHoldsNoMore(t *testing.T) {
	for what, lose := range map[string]func(d *disk.Disk){
		"written over": func(d *disk.Disk) { d.Write("f", 4, c("?")) },
		"cut off":      func(d *disk.Disk) { d.Cut("f", 4) },
		"lost":         func(d *disk.Disk) { d.Crash(nil) },
	} {
		for _, read := range []bool{false, true} {
			d, i := created(t, 0, 8)
			must(t, what, i.Put(0, c("a")))
			if read {
				must(t, what, ownErrno(i, "", 0))
			}
			lose(d)
			checkPut(t, what, i, 1, c("a"), raw(5, c("a")))
			want(t, what, ownErrno(i, "", 0), api.ErrSum)
			checkPut(t, what+", once more", i, 2, c("a"), raw(5, c("a")))
		}
	}
}

// 17.3: unlike contents of one fingerprint are stored each for itself, and each is known.
func TestPutOfTwins(t *testing.T) {
	for cluster := range 7 {
		for _, rest := range [][]byte{make([]byte, 16<<cluster), noise(16<<cluster, 9)} {
			a := append([]byte("\x02\x0d\x9b\x49\x69\x25\x0a\x0e\x49\xf9\x16\x22\x7a\xd7\x13\x31"), rest[16:]...)
			b := append([]byte("\x07\x0f\x73\x7f\x54\x25\x3d\x6f\x47\x2b\x3e\x1e\xbd\xbe\x2d\x3f"), rest[16:]...)
			want(t, "the fingerprints", crc.Finger(a), crc.Finger(b))
			_, i := created(t, cluster, 8<<cluster)
			must(t, "Put", i.Put(0, a), i.Put(1, b), i.Put(2, a), i.Put(3, b))
			for k, x := range [][]byte{a, b, a, b} {
				checkOwn(t, "a twin", i, "", k, x, entryAt(i, k).Kind, api.OK)
			}
			want(t, "the entries", []api.Entry{entryAt(i, 2), entryAt(i, 3)}, []api.Entry{entryAt(i, 0), entryAt(i, 1)})
			want(t, "Shared", i.Shared(), 2)
		}
	}
}

// 17.3: the index is empty after Create and after Open; what was put before is stored anew then.
func TestNothingIsKnownAfterOpen(t *testing.T) {
	d, i := created(t, 0, 8)
	must(t, "Put, Flush", i.Put(0, c("a")), i.Flush())
	j := opened(t, d)
	must(t, "Own", ownErrno(j, "", 0))
	checkPut(t, "opened", j, 1, c("a"), raw(2, c("a")))
	checkPut(t, "opened", j, 2, c("a"), raw(2, c("a")))
	checkPut(t, "the one before", i, 2, c("a"), raw(4, c("a")))
	i, errno := image.Create(d, "f", 0, 8, "")
	must(t, "Create", errno)
	checkPut(t, "created", i, 1, c("a"), raw(4, c("a")))
}

// 17.3: the index knows the last 64 contents that were stored as new entries; zeros and known ones are none of them.
func TestWhatTheIndexKnows(t *testing.T) {
	for stored := 62; stored < 70; stored++ {
		_, i := created(t, 0, 400)
		for n := range stored {
			must(t, "Put", i.Put(n, big(0, n)))
			must(t, "Put", i.Put(100+n, make([]byte, 16)), i.Put(200+n, big(0, max(0, n-5))), i.Zero(300), i.Clear(300))
		}
		for n := range stored {
			must(t, "Put", i.Put(300, big(0, n)))
			want(t, fmt.Sprintf("whether %d of %d is known", n, stored), entryAt(i, 300) == entryAt(i, n), n >= stored-64)
			if n < stored-64 {
				// It was stored anew, so that another one is not known any more now.
				break
			}
		}
	}
}

// 17.3: the bitmaps that are On are touched, whatever is put; the others are not.
func TestPutTouchesBitmaps(t *testing.T) {
	_, i := created(t, 0, 16)
	addMap(t, i, "on", true)
	addMap(t, i, "off", false)
	addMap(t, i, "too", true)
	sets := func() string {
		m := i.Meta()
		return fmt.Sprint(m.Maps)
	}
	must(t, "Put", i.Put(3, c("a")))
	want(t, "raw", sets(), "[{on true [{3 4}]} {off false []} {too true [{3 4}]}]")
	must(t, "Put", i.Put(5, c("a")))
	want(t, "known", sets(), "[{on true [{3 4} {5 6}]} {off false []} {too true [{3 4} {5 6}]}]")
	must(t, "Put", i.Put(4, make([]byte, 16)))
	want(t, "zeros", sets(), "[{on true [{3 6}]} {off false []} {too true [{3 6}]}]")
	must(t, "Put", i.Put(4, make([]byte, 16)), i.Put(3, c("a")))
	want(t, "as before", sets(), "[{on true [{3 6}]} {off false []} {too true [{3 6}]}]")
	must(t, "Zero", i.Zero(0))
	want(t, "Zero", sets(), "[{on true [{0 1} {3 6}]} {off false []} {too true [{0 1} {3 6}]}]")
	must(t, "Clear", i.Clear(15))
	want(t, "Clear", sets(), "[{on true [{0 1} {3 6} {15 16}]} {off false []} {too true [{0 1} {3 6} {15 16}]}]")
	must(t, "Flush", i.Flush())
	want(t, "Flush", sets(), "[{on true [{0 1} {3 6} {15 16}]} {off false []} {too true [{0 1} {3 6} {15 16}]}]")
}

// 17.3: Zero and Clear, with each kind of entry.
func TestZeroAndClear(t *testing.T) {
	for cluster := range 7 {
		for kind := range 4 {
			for _, shot := range []bool{false, true} {
				d, i := created(t, cluster, 16<<cluster)
				must(t, "Put", i.Put(3, big(cluster, 7)))
				for _, k := range []int{0, 8, 15} {
					switch kind {
					case api.EntryZero:
						must(t, "Zero", i.Zero(k))
					case api.EntryRaw:
						must(t, "Put", i.Put(k, big(cluster, k)))
					case api.EntryPacked:
						must(t, "Put", i.Put(k, small(cluster, k)))
					}
				}
				if shot {
					takeShot(t, i, "s")
				}
				before, was := bytesOf(t, d), shown(i, "s")
				for _, k := range []int{0, 8, 15} {
					must(t, "Zero", i.Zero(k))
					checkOwn(t, "zero", i, "", k, make([]byte, 16<<cluster), api.EntryZero, api.OK)
					must(t, "Clear", i.Clear(k))
					checkOwn(t, "cleared", i, "", k, make([]byte, 16<<cluster), api.EntryNone, api.OK)
				}
				m := i.Meta()
				want(t, "the table", m.T, tableOf(api.Entry{}, api.Entry{}, api.Entry{}, raw(4, big(cluster, 7))))
				want(t, "the shot", shown(i, "s"), was)
				want(t, "the file", bytes.Equal(bytesOf(t, d), before), true)
			}
		}
	}
}

// 17.3: ErrRange of Zero and Clear.
func TestZeroAndClearRefused(t *testing.T) {
	d, i := created(t, 1, 8)
	must(t, "Put", i.Put(3, big(1, 1)))
	takeShot(t, i, "s")
	addMap(t, i, "m", true)
	must(t, "Resize", i.Resize(6))
	for _, k := range append([]int{3, 4, 6, 8, 4095, 4096}, farNumbers...) {
		checkKeeps(t, "Zero", d, i, api.ErrRange, func() api.Errno { return i.Zero(k) })
		checkKeeps(t, "Clear", d, i, api.ErrRange, func() api.Errno { return i.Clear(k) })
	}
	must(t, "the last cluster", i.Zero(2), i.Clear(2))
}
