package file

import (
	"fmt"
	"math/rand"
	"slices"
	"testing"

	"matryoshka/api"
	"matryoshka/disk"
)

// picksOf are n picks, those of the bits of a number.
func picksOf(bits, n int) []bool {
	var l []bool
	for i := range n {
		l = append(l, bits>>i&1 == 1)
	}
	return l
}

// write is one sector that is written.
type write struct {
	sector int
	data   []byte
}

// withWrites are the bytes of a file when those of the writes have been made that are picked.
func withWrites(contents []byte, writes []write, picks []bool) []byte {
	out := slices.Clone(contents)
	for i, w := range writes {
		if i < len(picks) && picks[i] {
			out = append(out, make([]byte, max(0, w.sector*16+16-len(out)))...)
			copy(out[w.sector*16:], w.data)
		}
	}
	return out
}

// saveFails is a copy of a disk, on which the power has failed at the n-th write of a Save, after a crash.
func saveFails(t *testing.T, d *disk.Disk, m api.Meta, last api.Slot, n int, picks []bool) *disk.Disk {
	t.Helper()
	d = d.Copy()
	d.Power(n)
	s, errno := Save(d, "f", m, last, nil)
	want(t, "beside ErrDead", fmt.Sprint(s, errno), fmt.Sprint(none, api.ErrDead))
	d.Crash(picks)
	return d
}

// 16.2: the sectors of the blob are written one after the other, from its place on; then the file is flushed, then the
// slot is written, and the file is flushed again. Nothing is flushed ahead of that, and nothing else is written.
func TestOrderOfWritesAndFlushes(t *testing.T) {
	last := api.Slot{Seq: 4, Start: 4, Count: 16}
	for bytes := 19; bytes < 140; bytes += 6 {
		for _, size := range []int{2, 12, 40} {
			m, contents := sized(bytes), make([]byte, size*16)
			d := diskOf(t, contents)
			// A write that is not durable, ahead of all others.
			writes := []write{{size - 1, pattern(1)}}
			d.Write("f", size-1, writes[0].data)
			before := bytesOf(t, d, "f")
			s, after, errno := modelSave(before, m, last, nil)
			want(t, "the model's error", errno, api.OK)
			sectors := (s.Count + 15) / 16
			for sector := s.Start; sector < s.Start+sectors; sector++ {
				writes = append(writes, write{sector, after[sector*16 : sector*16+16]})
			}
			for n := 1; n <= sectors; n++ {
				for _, bits := range []int{0, 1, 1 << (n / 2), 1 << n / 2, 1 << n, 1<<n - 1, 1<<(n+1) - 1} {
					fallen := saveFails(t, d, m, last, n, picksOf(bits, 20))
					checkBytes(t, fmt.Sprintf("%b of %d writes", bits, n), fallen, withWrites(contents, writes[:n], picksOf(bits, 20)))
				}
			}
			checkBytes(t, "flushed ahead of the slot", saveFails(t, d, m, last, sectors+1, nil), withWrites(contents, writes, picksOf(1<<20-1, 20)))

			d.Power(sectors + 2)
			got, errno := Save(d, "f", m, last, nil)
			want(t, "no error", fmt.Sprint(got, errno), fmt.Sprint(s, api.OK))
			fallen := d.Copy()
			fallen.Crash(nil)
			checkBytes(t, "flushed behind the slot", fallen, after)
			want(t, "the next write", d.Write("f", 0, make([]byte, 16)), api.ErrDead)
		}
	}
}

// 16.3: a crash at every write of a Save, whichever of the writes survive.
func TestCrashAtEveryWrite(t *testing.T) {
	older := at(30, 31)
	for _, newer := range []api.Meta{sized(19), sized(40), sized(60)} {
		for _, old := range []bool{false, true} {
			first, last := diskOf(t, make([]byte, 40*16)), none
			if old {
				last = checkSave(t, "the state before", first, older, none, nil)
			}
			before := loaded(first)
			saved := first.Copy()
			s, errno := Save(saved, "f", newer, last, nil)
			want(t, "the error", errno, api.OK)
			after := loaded(saved)
			want(t, "whether it is another state", before != after, true)
			for n := 1; n <= (s.Count+15)/16+3; n++ {
				for bits := range 1 << 6 {
					d := first.Copy()
					d.Power(n)
					_, errno := Save(d, "f", newer, last, nil)
					d.Crash(picksOf(bits, 6))
					got := loaded(d)
					if errno == api.OK {
						want(t, "the state of a Save that was answered", got, after)
					} else {
						want(t, "the error", errno, api.ErrDead)
						want(t, "whether it is one of the two states", got == before || got == after, true)
					}
				}
			}
		}
	}
}

// 16.3: of a slot that is written while the power is on, and not flushed, it hangs on the crash whether it is there;
// either of the two is whole then.
func TestCrashBetweenTheFlushes(t *testing.T) {
	d := diskOf(t, make([]byte, 40*16))
	last := checkSave(t, "the state before", d, at(30), none, nil)
	before := loaded(d)
	saved := d.Copy()
	s, _ := Save(saved, "f", at(31), last, nil)
	after := loaded(saved)
	d.Power((s.Count+15)/16 + 1)
	_, errno := Save(d, "f", at(31), last, nil)
	want(t, "the error", errno, api.ErrDead)
	d.Crash(nil)
	want(t, "without the slot", loaded(d), before)
	whole := bytesOf(t, saved, "f")
	d.Write("f", 1, whole[16:32])
	lost := d.Copy()
	lost.Crash(nil)
	want(t, "the slot is lost", loaded(lost), before)
	d.Crash([]bool{true})
	want(t, "the slot is there", loaded(d), after)
}

// 16.3: files that have no slots yet, and grow.
func TestCrashInShortFiles(t *testing.T) {
	for size := range 4 {
		for n := 1; n < 8; n++ {
			for bits := range 1 << 6 {
				d := diskOf(t, make([]byte, size*16))
				d.Power(n)
				s, errno := Save(d, "f", sized(40), none, nil)
				d.Crash(picksOf(bits, 6))
				if errno == api.OK {
					checkLoad(t, "the new state", d, with(sized(40), modelCounts(empty, max(size, 5))...), s)
				} else {
					checkNoLoad(t, "no state", d, "f", api.ErrForm)
				}
			}
		}
	}
}

// 16.3: many Saves one after another, at some of which the power fails, and with errors here and there.
func TestCrashesOfManySaves(t *testing.T) {
	r := rand.New(rand.NewSource(4))
	answers := map[api.Errno]int{}
	for range 60 {
		d, _ := disk.New(110)
		d.Create("f")
		d.Write("f", 0, make([]byte, 100*16))
		d.Flush("f")
		last, current := none, empty
		for range 60 {
			before := loaded(d)
			m := anyImage(r, 60)
			kept := modelCounts(current, 60)
			d.Power(r.Intn(60) + 1)
			s, errno := Save(d, "f", m, last, kept)
			answers[errno]++
			if errno == api.OK {
				n, _ := d.Size("f")
				checkLoad(t, "after Save", d, with(m, modelCounts(m, n)...), s)
				before = loaded(d)
			}
			if errno == api.ErrSpace {
				want(t, "the state beside ErrSpace", loaded(d), before)
			}
			if errno == api.ErrDead || r.Intn(3) == 0 {
				d.Crash(picksOf(r.Intn(1<<30), r.Intn(30)))
				if loaded(d) != before {
					want(t, "whether the power had failed", errno, api.ErrDead)
					checkWhole(t, d, m)
				}
			}
			if state, slot, errno := Load(d, "f"); errno == api.OK {
				current, last = state, slot
			}
		}
	}
	want(t, "the answers", answers[api.OK] > 100 && answers[api.ErrDead] > 100 && answers[api.ErrSpace] > 10, true)
}

// checkWhole is that the state of f is the one that a Save in progress was storing.
func checkWhole(t *testing.T, d *disk.Disk, m api.Meta) {
	t.Helper()
	got, _, errno := Load(d, "f")
	want(t, "the error", errno, api.OK)
	want(t, "the state", got, with(m, modelCounts(m, len(got.Counts))...))
}

// 16.2: a disk without power keeps its state, and has it again after the crash; the next Save goes on from there.
func TestSaveGoesOnAfterACrash(t *testing.T) {
	d := diskOf(t, make([]byte, 32))
	last := none
	for i := range 30 {
		m := api.Meta{Size: i}
		d.Power(i%4 + 1)
		s, errno := Save(d, "f", m, last, nil)
		if errno == api.ErrDead {
			d.Crash(nil)
			s = checkSave(t, "once more", d, m, last, nil)
		}
		want(t, "the Seq", s.Seq, i+1)
		n, _ := d.Size("f")
		checkLoad(t, "the state", d, with(m, modelCounts(m, n)...), s)
		last = s
	}
	want(t, "the sectors", d.Used(), 6)
}
