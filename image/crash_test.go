package image_test

import (
	"fmt"
	"math/rand"
	"slices"
	"testing"

	"matryoshka/api"
	"matryoshka/disk"
	"matryoshka/image"
	"matryoshka/maps"
	"matryoshka/shots"
)

// picksOf are n picks, those of the bits of a number.
func picksOf(bits, n int) []bool {
	var l []bool
	for i := range n {
		l = append(l, bits>>i&1 == 1)
	}
	return l
}

// step is a call on an image; one that flushes it or not.
type step struct {
	flushes bool
	call    func(i *image.Image) api.Errno
}

func put(k int, b []byte) step {
	return step{false, func(i *image.Image) api.Errno { return i.Put(k, b) }}
}

func flush() step {
	return step{true, (*image.Image).Flush}
}

// turn is a Turn to what a function makes of the meta.
func turn(of func(m api.Meta) (api.Meta, api.Errno)) step {
	return step{false, func(i *image.Image) api.Errno {
		m, errno := of(i.Meta())
		if errno != api.OK {
			return errno
		}
		return i.Turn(m)
	}}
}

func shot(name string) step {
	return turn(func(m api.Meta) (api.Meta, api.Errno) { return shots.Add(m, name) })
}

func unshot(name string) step {
	return turn(func(m api.Meta) (api.Meta, api.Errno) { return shots.Drop(m, name) })
}

func revert(name string) step {
	return turn(func(m api.Meta) (api.Meta, api.Errno) { return shots.Back(m, name) })
}

func bitmap(name string) step {
	return turn(func(m api.Meta) (api.Meta, api.Errno) {
		l, errno := maps.Add(m.Maps, name)
		m.Maps = l
		return m, errno
	})
}

// steps are calls of all kinds on an image of clusters of two sectors; none fails while there are power and room.
func steps() []step {
	zero := step{false, func(i *image.Image) api.Errno { return i.Zero(1) }}
	none := step{false, func(i *image.Image) api.Errno { return i.Clear(2) }}
	shorter := step{false, func(i *image.Image) api.Errno { return i.Resize(8) }}
	longer := step{false, func(i *image.Image) api.Errno { return i.Resize(20) }}
	return []step{
		put(0, big(1, 1)), put(1, small(1, 2)), flush(), put(2, big(1, 1)), put(0, big(1, 3)), bitmap("m"), flush(),
		put(3, big(1, 4)), shot("s"), put(3, big(1, 5)), put(0, small(1, 6)), flush(), zero, none, put(4, big(1, 5)), put(5, big(1, 7)), flush(), flush(),
		shorter, longer, put(9, big(1, 8)), shot("t"), flush(), unshot("s"), put(0, big(1, 9)), put(1, big(1, 10)), put(2, small(1, 11)), flush(),
		revert("t"), put(7, big(1, 12)), flush(), unshot("t"), put(8, big(1, 12)), put(9, make([]byte, 32)), flush(), put(0, big(1, 13)),
	}
}

// begun is a new image for the steps.
func begun(t *testing.T) (*disk.Disk, *image.Image) {
	t.Helper()
	return backed(t, 1, 16)
}

// walked are the states ahead of each step and behind the last one, and for each of these the state that was flushed last.
func walked(t *testing.T) (states, flushed []string) {
	t.Helper()
	_, i := begun(t)
	states, flushed = []string{lasting(i)}, []string{lasting(i)}
	for n, s := range steps() {
		must(t, fmt.Sprint("step ", n), s.call(i))
		states = append(states, lasting(i))
		last := flushed[n]
		if s.flushes {
			last = states[n+1]
		}
		flushed = append(flushed, last)
	}
	return states, flushed
}

// 17, 17.5: a crash at every write, whichever of the unflushed writes survive: Open finds the state of the last Flush, or
// that of the Flush that was in progress.
func TestCrashAtEveryWrite(t *testing.T) {
	states, flushed := walked(t)
	r := rand.New(rand.NewSource(1))
	for n, done := 1, false; !done; n++ {
		start, first := begun(t)
		start.Power(n)
		at := 0
		for at < len(steps()) && steps()[at].call(first) == api.OK {
			at++
		}
		done = at == len(steps())
		for pick := range 12 {
			d := start.Copy()
			d.Crash(anyPicks(r, pick))
			got := lasting(opened(t, d))
			if got == flushed[at] {
				continue
			}
			want(t, fmt.Sprintf("power %d, step %d: whether a Flush was in progress", n, at), !done && steps()[at].flushes, true)
			want(t, fmt.Sprintf("power %d, step %d", n, at), got, states[at])
		}
	}
}

// anyPicks are picks of which none is true, all are, or some.
func anyPicks(r *rand.Rand, kind int) []bool {
	switch kind {
	case 0:
		return nil
	case 1:
		return slices.Repeat([]bool{true}, 200)
	}
	var l []bool
	for range 200 {
		l = append(l, r.Intn(kind) == 0)
	}
	return l
}

// 17, 17.5: a crash between two calls: Open finds the state of the last Flush.
func TestCrashBetweenCalls(t *testing.T) {
	_, flushed := walked(t)
	r := rand.New(rand.NewSource(2))
	d, i := begun(t)
	for n, s := range steps() {
		must(t, "the step", s.call(i))
		for pick := range 8 {
			fallen := d.Copy()
			fallen.Crash(anyPicks(r, pick))
			want(t, fmt.Sprint("behind step ", n), lasting(opened(t, fallen)), flushed[n+1])
		}
	}
}

// 17.5: the power fails again and again; after each crash the image goes on from what it is opened with.
func TestCrashAgainAndAgain(t *testing.T) {
	for seed := range 60 {
		r := rand.New(rand.NewSource(int64(seed)))
		d, i := begun(t)
		last := lasting(i)
		for range 150 {
			d.Power(r.Intn(120) + 1)
			s := anyStep(r)
			before := lasting(i)
			errno := s.call(i)
			if errno == api.OK && s.flushes {
				last = before
			}
			if errno != api.ErrDead && r.Intn(20) > 0 {
				continue
			}
			d.Crash(anyPicks(r, r.Intn(6)))
			i = opened(t, d)
			if got := lasting(i); got != last {
				want(t, "whether a Flush was in progress", errno == api.ErrDead && s.flushes, true)
				want(t, "the state", got, before)
				last = got
			}
		}
	}
}

// anyStep is a call of any kind, which may fail.
func anyStep(r *rand.Rand) step {
	name := fmt.Sprint("s", r.Intn(3))
	switch r.Intn(12) {
	case 0, 1, 2:
		return flush()
	case 3:
		return shot(name)
	case 4:
		return unshot(name)
	case 5:
		return revert(name)
	case 6:
		return bitmap(name)
	case 7:
		n := r.Intn(16) * 2
		return step{false, func(i *image.Image) api.Errno { return i.Resize(n) }}
	case 8:
		k := r.Intn(16)
		return step{false, func(i *image.Image) api.Errno { return i.Clear(k) }}
	case 9:
		return put(r.Intn(16), small(1, r.Intn(6)))
	}
	return put(r.Intn(16), big(1, r.Intn(9)))
}

// 17.5: clusters read as they were put last, those of shots as they were when the shot was taken, whatever is put then.
func TestClustersReadAsTheyWerePut(t *testing.T) {
	for cluster := range 4 {
		d, i := created(t, cluster, 16<<cluster)
		r := rand.New(rand.NewSource(int64(cluster)))
		now := map[int][]byte{}
		taken := map[string]map[int][]byte{}
		for n := range 300 {
			k, b := r.Intn(16), big(cluster, r.Intn(40))
			if r.Intn(3) == 0 {
				b = small(cluster, r.Intn(9))
			}
			must(t, "Put", i.Put(k, b))
			now[k] = b
			if n%40 == 20 {
				name := fmt.Sprint("s", n)
				takeShot(t, i, name)
				taken[name] = map[int][]byte{}
				for k, b := range now {
					taken[name][k] = b
				}
			}
			if n%13 == 0 {
				must(t, "Flush", i.Flush())
			}
			if n%90 == 89 {
				must(t, "Flush", i.Flush())
				i = opened(t, d)
			}
			for k, b := range now {
				want(t, "a cluster", fmt.Sprintf("%x", contentsOf(i, "", k)), fmt.Sprintf("%x", b))
			}
			for name, clusters := range taken {
				for k, b := range clusters {
					want(t, "a cluster of a shot", fmt.Sprintf("%x", contentsOf(i, name, k)), fmt.Sprintf("%x", b))
				}
			}
		}
	}
}
