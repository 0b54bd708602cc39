package lru

import (
	"fmt"
	"maps"
	"math/rand"
	"slices"
	"strings"
	"testing"

	"matryoshka/api"
)

// act is a call: Get, Put of a dirty key or of one that is not, After, Flush, Drop or Dirty, and at last nothing but
// that a copy goes on.
type act struct {
	kind     byte // 'g', 'd', 'p', 'a', 'f', 'x', 'l', 'c'
	k, first int
	text     string
}

// model is a cache that is lists alone, in which all is looked for by the words of the chapter.
type model struct {
	room    int
	uses    []int // the keys, the least recently used one first
	text    map[int]string
	dirty   map[int]bool
	records [][2]int // in the order in which they were recorded
}

func newModel(room int) *model {
	return &model{room: room, text: map[int]string{}, dirty: map[int]bool{}}
}

func (m *model) copy() *model {
	return &model{m.room, slices.Clone(m.uses), maps.Clone(m.text), maps.Clone(m.dirty), slices.Clone(m.records)}
}

func (m *model) use(k int) {
	m.uses = append(slices.DeleteFunc(m.uses, func(used int) bool { return used == k }), k)
}

func (m *model) remove(k int) {
	m.uses = slices.DeleteFunc(m.uses, func(used int) bool { return used == k })
	delete(m.text, k)
	m.clean(k)
}

func (m *model) clean(k int) {
	delete(m.dirty, k)
	m.records = slices.DeleteFunc(m.records, func(r [2]int) bool { return r[0] == k || r[1] == k })
}

// line is the line of k, in which a key may be more than once.
func (m *model) line(k int) []int {
	var l []int
	for _, r := range m.records {
		if r[0] == k {
			l = append(l, m.line(r[1])...)
		}
	}
	return append(l, k)
}

// write is these lines, each key once, of which none is dirty afterwards.
func (m *model) write(keys ...int) []int {
	var all []int
	for _, k := range keys {
		for _, written := range m.line(k) {
			if !slices.Contains(all, written) {
				all = append(all, written)
			}
		}
	}
	for _, k := range all {
		m.clean(k)
	}
	return all
}

func (m *model) put(k int, text string, dirty bool) []int {
	m.text[k] = text
	m.use(k)
	if dirty {
		m.dirty[k] = true
	}
	var written []int
	for len(m.uses) > m.room {
		if oldest := m.uses[0]; m.dirty[oldest] {
			written = append(written, m.write(oldest)...)
		}
		m.remove(m.uses[0])
	}
	return written
}

func (m *model) after(k, first int) api.Errno {
	switch {
	case !m.dirty[k] || !m.dirty[first]:
		return api.ErrNone
	case slices.Contains(m.line(first), k):
		return api.ErrCycle
	case !slices.Contains(m.records, [2]int{k, first}):
		m.records = append(m.records, [2]int{k, first})
	}
	return api.OK
}

func (m *model) dirtyKeys() []int {
	return slices.Sorted(maps.Keys(m.dirty))
}

// do tells what the model answers to an act.
func (m *model) do(a act) string {
	switch a.kind {
	case 'g':
		text, ok := m.text[a.k]
		if ok {
			m.use(a.k)
		}
		return fmt.Sprint([]byte(text), ok)
	case 'd', 'p':
		return fmt.Sprint(m.put(a.k, a.text, a.kind == 'd'))
	case 'a':
		return fmt.Sprint(m.after(a.k, a.first))
	case 'f':
		return fmt.Sprint(m.write(m.dirtyKeys()...))
	case 'x':
		m.remove(a.k)
	case 'l':
		return fmt.Sprint(m.dirtyKeys())
	}
	return ""
}

// doTo tells what a cache answers to an act, and which cache goes on.
func doTo(c *Cache, a act) (*Cache, string) {
	switch a.kind {
	case 'g':
		b, ok := c.Get(a.k)
		return c, fmt.Sprint(b, ok)
	case 'd', 'p':
		return c, fmt.Sprint(c.Put(a.k, []byte(a.text), a.kind == 'd'))
	case 'a':
		return c, fmt.Sprint(c.After(a.k, a.first))
	case 'f':
		return c, fmt.Sprint(c.Flush())
	case 'x':
		c.Drop(a.k)
	case 'l':
		return c, fmt.Sprint(c.Dirty())
	case 'c':
		return c.Copy(), ""
	}
	return c, ""
}

// told tells acts.
func told(acts []act) string {
	var all []string
	for _, a := range acts {
		all = append(all, fmt.Sprintf("%c(%d, %d)", a.kind, a.k, a.first))
	}
	return strings.Join(all, " ")
}

// last is acts that show what is left behind a run.
func last(n int) []act {
	acts := []act{{kind: 'l'}}
	for k := range n {
		acts = append(acts, act{kind: 'd', k: 100 + k})
	}
	return append(acts, act{kind: 'f'})
}

// actsOf is each act of the keys below n.
func actsOf(n int) []act {
	acts := []act{{kind: 'f'}}
	for k := range n {
		for _, kind := range []byte("gdpx") {
			acts = append(acts, act{kind: kind, k: k})
		}
		for first := range n {
			acts = append(acts, act{kind: 'a', k: k, first: first})
		}
	}
	return acts
}

// runAll does each run of so many of the acts, from a cache and a model of one state.
func runAll(t *testing.T, c *Cache, m *model, acts, begun []act, left int) {
	if left == 0 {
		for _, a := range last(m.room) {
			_, answer := doTo(c, a)
			if wanted := m.do(a); answer != wanted {
				t.Fatalf("room %d, behind %s, %c: %s, want %s", m.room, told(begun), a.kind, answer, wanted)
			}
		}
		return
	}
	for _, a := range acts {
		nextModel := m.copy()
		a.text = string(rune('a' + left))
		next, answer := doTo(c.Copy(), a)
		if wanted := nextModel.do(a); answer != wanted {
			t.Fatalf("room %d, %s, then %s: %s, want %s", m.room, told(begun), told([]act{a}), answer, wanted)
		}
		runAll(t, next, nextModel, acts, append(slices.Clone(begun), a), left-1)
	}
}

// 10.1 and 10.2: all short runs, from an empty cache and from one whose keys are all dirty.
func TestShortRuns(t *testing.T) {
	for room := 1; room <= 3; room++ {
		for _, full := range []bool{false, true} {
			c, m := empty(t, room), newModel(room)
			for k := 0; full && k < room; k++ {
				c.Put(k, nil, true)
				m.put(k, "", true)
			}
			runAll(t, c, m, actsOf(3), nil, 3)
			runAll(t, c, m, actsOf(2), nil, 4)
		}
	}
}

// anyAct is an act of one of n keys.
func anyAct(random *rand.Rand, n int) act {
	kinds := "ggddddddpppaaaaaaaaaaaalxc"
	if random.Intn(8) == 0 {
		kinds = "f"
	}
	return act{
		kind:  kinds[random.Intn(len(kinds))],
		k:     random.Intn(n) - n/4,
		first: random.Intn(n) - n/4,
		text:  strings.Repeat("x", random.Intn(4)) + string(rune('a'+random.Intn(26))),
	}
}

// 10.1 and 10.2: long runs, with few keys and with more.
func TestLongRuns(t *testing.T) {
	for seed := range int64(200) {
		random := rand.New(rand.NewSource(seed))
		room := 1 + random.Intn(8)
		n := 1 + random.Intn(room+6)
		c, m := empty(t, room), newModel(room)
		for i := range 400 {
			a := anyAct(random, n)
			next, answer := doTo(c, a)
			if wanted := m.do(a); answer != wanted {
				t.Fatalf("seed %d, act %d, %s: %s, want %s", seed, i, told([]act{a}), answer, wanted)
			}
			c = next
		}
	}
}

// watch is what is to be written, and which of two keys first.
type watch struct {
	pending map[int]bool
	ordered map[[2]int]bool
}

func (w *watch) end(k int) {
	delete(w.pending, k)
	maps.DeleteFunc(w.ordered, func(p [2]int, _ bool) bool { return p[0] == k || p[1] == k })
}

// write tells what is wrong with the keys that are written.
func (w *watch) write(keys []int) string {
	for _, k := range keys {
		if !w.pending[k] {
			return fmt.Sprint(k, " is written, and isn't dirty")
		}
		for p := range w.ordered {
			if p[0] == k {
				return fmt.Sprint(k, " is written ahead of ", p[1])
			}
		}
		w.end(k)
	}
	return ""
}

// 10.3: a key that is ordered after another is written behind it, and each dirty key once.
func TestEachIsWrittenOnceAndInOrder(t *testing.T) {
	for seed := range int64(60) {
		random := rand.New(rand.NewSource(seed))
		room := []int{1, 2, 3, 5, 8, 20, 60}[random.Intn(7)]
		n := room + 1 + random.Intn(room+1)
		c := empty(t, room)
		w := watch{map[int]bool{}, map[[2]int]bool{}}
		for i := range 2000 {
			k, first := random.Intn(n), random.Intn(n)
			var written []int
			switch random.Intn(40) {
			case 0:
				written = c.Flush()
			case 1:
				c.Drop(k)
				w.end(k)
			case 2, 3, 4, 5, 6, 7, 8, 9:
				dirty := random.Intn(3) > 0
				w.pending[k] = w.pending[k] || dirty
				if !w.pending[k] {
					delete(w.pending, k)
				}
				written = c.Put(k, nil, dirty)
			default:
				if c.After(k, first) == api.OK {
					w.ordered[[2]int{k, first}] = true
				}
			}
			if wrong := w.write(written); wrong != "" {
				t.Fatalf("seed %d, act %d: %s", seed, i, wrong)
			}
			want(t, fmt.Sprintf("seed %d, act %d", seed, i), c.Dirty(), slices.Sorted(maps.Keys(w.pending)))
		}
		if wrong := w.write(c.Flush()); wrong != "" || len(w.pending) > 0 {
			t.Fatalf("seed %d, at the end: %s, %v left", seed, wrong, w.pending)
		}
	}
}
