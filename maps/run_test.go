package maps

import (
	"fmt"
	"math/rand"
	"slices"
	"testing"

	"matryoshka/api"
)

// track is a bitmap of the model: for each cluster, when it was recorded last; 0 for one that is not recorded.
type track struct {
	name string
	on   bool
	at   map[int]int
}

// model knows of no spans: it goes by numbers alone.
type model struct {
	clusters int
	now      int
	tracks   []*track
}

func (m *model) find(name string) *track {
	for _, x := range m.tracks {
		if x.name == name {
			return x
		}
	}
	return nil
}

func (m *model) add(name string) api.Errno {
	if m.find(name) != nil {
		return api.ErrTwice
	}
	if len(m.tracks) == 8 {
		return api.ErrMany
	}
	m.tracks = append(m.tracks, &track{name, true, map[int]int{}})
	return api.OK
}

func (m *model) drop(name string) api.Errno {
	x := m.find(name)
	if x == nil {
		return api.ErrName
	}
	m.tracks = slices.DeleteFunc(m.tracks, func(y *track) bool { return x == y })
	return api.OK
}

func (m *model) turn(name string, on bool) api.Errno {
	x := m.find(name)
	if x == nil {
		return api.ErrName
	}
	x.on = on
	return api.OK
}

func (m *model) clear(name string) api.Errno {
	x := m.find(name)
	if x == nil {
		return api.ErrName
	}
	x.at = map[int]int{}
	return api.OK
}

func (m *model) merge(name, other string) api.Errno {
	x, y := m.find(name), m.find(other)
	if x == nil || y == nil {
		return api.ErrName
	}
	for n, at := range y.at {
		x.at[n] = max(at, x.at[n])
	}
	return api.OK
}

func (m *model) touch(from, to int) {
	m.now++
	for _, x := range m.tracks {
		for n := from; x.on && n < to; n++ {
			x.at[n] = m.now
		}
	}
}

func (m *model) size(now int) {
	was := m.clusters
	m.clusters = now
	for _, x := range m.tracks {
		for n := now; n < was; n++ {
			delete(x.at, n)
		}
	}
	m.touch(was, now)
}

// list tells the model as a list of bitmaps.
func (m *model) list() []api.Bitmap {
	var l []api.Bitmap
	for _, x := range m.tracks {
		in := map[int]bool{}
		for n, at := range x.at {
			in[n] = at > 0
		}
		l = append(l, api.Bitmap{Name: x.name, On: x.on, L: spansOf(in, 0, 64)})
	}
	return l
}

// act does one thing to a list and to the model, and tells both errors; kind and the numbers say which.
func (m *model) act(l []api.Bitmap, kind int, name, other string, a, b int) (next []api.Bitmap, errno, wanted api.Errno) {
	switch kind {
	case 0:
		next, errno = Add(l, name)
		wanted = m.add(name)
	case 1:
		next, errno = Drop(l, name)
		wanted = m.drop(name)
	case 2, 3:
		next, errno = Turn(l, name, kind == 2)
		wanted = m.turn(name, kind == 2)
	case 4:
		next, errno = Clear(l, name)
		wanted = m.clear(name)
	case 5:
		next, errno = Merge(l, name, other)
		wanted = m.merge(name, other)
	case 6:
		a, b = min(a, m.clusters), min(b, m.clusters)
		next = Touch(l, s(a, b))
		m.touch(a, b)
	default:
		next = Size(l, m.clusters, a)
		m.size(a)
	}
	return next, errno, wanted
}

// 13.1 to 13.3: over long runs, each set holds the clusters that were touched while its bitmap was on, until it was
// cleared or they ceased to exist, and those that were merged into it; and no others.
func TestLongRuns(t *testing.T) {
	counts := map[api.Errno]int{}
	for seed := range int64(100) {
		random := rand.New(rand.NewSource(seed))
		all := []string{"a", "b", "c", "d", "e", "f", "g", "h", "i", "j", "k"}[:2+random.Intn(10)]
		m, l := &model{clusters: random.Intn(60)}, []api.Bitmap(nil)
		for i := range 600 {
			kind := random.Intn(14)
			if kind > 7 {
				kind = []int{6, 6, 0, 0, 2, 7}[kind-8]
			}
			a := random.Intn(60)
			next, errno, wanted := m.act(l, kind, all[random.Intn(len(all))], all[random.Intn(len(all))], a, a+random.Intn(6))
			what := fmt.Sprintf("seed %d, act %d of kind %d", seed, i, kind)
			want(t, what, errno, wanted)
			counts[errno]++
			if errno == api.OK {
				l = next
			}
			want(t, what, l, m.list())
		}
	}
	for _, errno := range []api.Errno{api.OK, api.ErrTwice, api.ErrMany, api.ErrName} {
		if counts[errno] < 100 {
			t.Errorf("error %d only %d times", errno, counts[errno])
		}
	}
}

// step is one thing that a short run does.
type step struct {
	kind        int
	name, other string
	a, b        int
}

// steps are those of short runs: two names, and few clusters.
func steps() []step {
	var l []step
	for _, name := range []string{"a", "b"} {
		for kind := range 5 {
			l = append(l, step{kind, name, "", 0, 0})
		}
	}
	return append(l, step{5, "a", "b", 0, 0}, step{5, "b", "a", 0, 0}, step{6, "", "", 0, 2}, step{6, "", "", 1, 3}, step{6, "", "", 2, 2}, step{7, "", "", 1, 0}, step{7, "", "", 4, 0})
}

// 13.1 to 13.3: all short runs.
func TestAllShortRuns(t *testing.T) {
	all := steps()
	n := len(all)
	for run := range n * n * n * n {
		m, l := &model{clusters: 3}, []api.Bitmap(nil)
		l, _, _ = m.act(l, 0, "a", "", 0, 0)
		for _, i := range []int{run / n / n / n, run / n / n % n, run / n % n, run % n} {
			x := all[i]
			next, errno, wanted := m.act(l, x.kind, x.name, x.other, x.a, x.b)
			if errno != wanted {
				t.Fatalf("run %d: error %d, want %d", run, errno, wanted)
			}
			if errno == api.OK {
				l = next
			}
		}
		want(t, fmt.Sprint("run ", run), l, m.list())
	}
}

// 13.3: a cluster that was touched stays in the set, whatever else befalls the list, until it is cleared or ceases to
// exist.
func TestATouchedClusterStays(t *testing.T) {
	for n := range 8 {
		l, _ := Add(nil, "a")
		l = Touch(l, s(n, n+1))
		for _, change := range []func(){
			func() { l, _ = Add(l, "b") },
			func() { l, _ = Merge(l, "a", "b") },
			func() { l, _ = Turn(l, "a", false) },
			func() { l = Touch(l, s(0, 3)) },
			func() { l, _ = Merge(l, "b", "a") },
			func() { l, _ = Clear(l, "b") },
			func() { l, _ = Turn(l, "a", true) },
			func() { l = Touch(l, s(3, 3)) },
			func() { l = Size(l, 8, 20) },
			func() { l = Size(l, 20, n+1) },
			func() { l = Size(l, -1, 0) },
			func() { l = Touch(l, s(4, 6)) },
			func() { l, _ = Drop(l, "b") },
		} {
			change()
			want(t, fmt.Sprint("whether there is ", n), numbersOf(l[0].L, 0, 30)[n], true)
		}
		gone := Size(l, n+1, n)
		want(t, fmt.Sprint("whether there is still ", n), numbersOf(gone[0].L, 0, 30)[n], false)
		l, _ = Clear(l, "a")
		want(t, "the set", l[0].L, nil)
	}
}
