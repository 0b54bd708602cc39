package index

import (
	"fmt"
	"maps"
	"math/rand"
	"slices"
	"strings"
	"testing"

	"matryoshka/api"
)

// act is a call: Add, Find, Forget or Len, and at last nothing but that a copy goes on.
type act struct {
	kind byte // 'a', 'f', 'x', 'l', 'c'
	b    []byte
	e    api.Entry
}

// known is a pair of the model.
type known struct {
	finger uint64
	e      api.Entry
}

// model is an index that numbers its pairs, and that looks through all of them by the words of the chapter.
type model struct {
	pairs map[int]known
	next  int
}

// order is the numbers of the pairs, in the order in which they were added.
func (m *model) order() []int {
	return slices.Sorted(maps.Keys(m.pairs))
}

func (m *model) add(p known) {
	for _, other := range m.pairs {
		if other == p {
			return
		}
	}
	if len(m.pairs) == 64 {
		delete(m.pairs, m.order()[0])
	}
	m.pairs[m.next] = p
	m.next++
}

func (m *model) find(finger uint64) []api.Entry {
	var l []api.Entry
	for _, n := range m.order() {
		if p := m.pairs[n]; p.finger == finger {
			l = append(l, p.e)
		}
	}
	return l
}

func (m *model) forget(e api.Entry) bool {
	before := len(m.pairs)
	maps.DeleteFunc(m.pairs, func(_ int, p known) bool { return p.e == e })
	return len(m.pairs) < before
}

// do tells what the model answers to an act.
func (m *model) do(a act) string {
	switch a.kind {
	case 'a':
		m.add(known{fingerOf(a.b), a.e})
	case 'f':
		return fmt.Sprint(m.find(fingerOf(a.b)))
	case 'x':
		return fmt.Sprint(m.forget(a.e))
	case 'l':
		return fmt.Sprint(len(m.pairs))
	}
	return ""
}

func (m *model) copy() *model {
	return &model{maps.Clone(m.pairs), m.next}
}

// doTo tells what an index answers to an act, and which index goes on.
func doTo(x *Index, a act) (*Index, string) {
	switch a.kind {
	case 'a':
		x.Add(a.b, a.e)
	case 'f':
		return x, fmt.Sprint(x.Find(a.b))
	case 'x':
		return x, fmt.Sprint(x.Forget(a.e))
	case 'l':
		return x, fmt.Sprint(x.Len())
	case 'c':
		return x.Copy(), ""
	}
	return x, ""
}

// told tells acts.
func told(acts []act) string {
	var all []string
	for _, a := range acts {
		all = append(all, fmt.Sprintf("%c(%q, %v)", a.kind, a.b, a.e))
	}
	return strings.Join(all, " ")
}

// actsOf is each act of these contents and entries.
func actsOf(all [][]byte, entries []api.Entry) []act {
	var acts []act
	for _, b := range all {
		acts = append(acts, act{kind: 'f', b: b})
		for _, e := range entries {
			acts = append(acts, act{kind: 'a', b: b, e: e})
		}
	}
	for _, e := range entries {
		acts = append(acts, act{kind: 'x', e: e})
	}
	return acts
}

// runAll does each run of so many of the acts, from an index and a model of one state, and then looks at what is there.
func runAll(t *testing.T, x *Index, m *model, acts, begun []act, left int) {
	if left == 0 {
		for _, a := range append(slices.Clone(acts), act{kind: 'l'}) {
			if a.kind != 'f' && a.kind != 'l' {
				continue
			}
			_, answer := doTo(x, a)
			if wanted := m.do(a); answer != wanted {
				t.Fatalf("behind %s, %s: %s, want %s", told(begun), told([]act{a}), answer, wanted)
			}
		}
		return
	}
	for _, a := range acts {
		nextModel := m.copy()
		next, answer := doTo(x.Copy(), a)
		if wanted := nextModel.do(a); answer != wanted {
			t.Fatalf("%s, then %s: %s, want %s", told(begun), told([]act{a}), answer, wanted)
		}
		runAll(t, next, nextModel, acts, append(slices.Clone(begun), a), left-1)
	}
}

// 11.1 to 11.3: all short runs, from an empty index and from some that are nearly full.
func TestShortRuns(t *testing.T) {
	few := actsOf([][]byte{twins(0), []byte("b")}, ats(2, 3))
	more := actsOf([][]byte{twins(0), twins(1), nil, contents(1)}, ats(0, 1, 2, 60))
	for _, n := range []int{0, 1, 2, 61, 62, 63, 64} {
		x, m := New(), &model{pairs: map[int]known{}}
		for i := range n {
			x.Add(contents(i), at(i))
			m.add(known{fingerOf(contents(i)), at(i)})
		}
		depth := 5
		if n > 2 {
			depth = 3
		}
		runAll(t, x, m, few, nil, depth)
		runAll(t, x, m, more, nil, 2)
	}
}

// anyContents are bytes of few kinds, some of which have one fingerprint.
func anyContents(random *rand.Rand, kinds int) []byte {
	switch n := random.Intn(kinds); n {
	case 0:
		return nil
	case 1, 2, 3:
		return twins(n)
	default:
		return contents(n)
	}
}

// anyEntry is an entry of few kinds, many of which are not valid.
func anyEntry(random *rand.Rand, kinds int) api.Entry {
	n := random.Intn(kinds)
	return api.Entry{Kind: n % 2, Start: n / 2 % 3, Count: n / 6 % 2, Size: n / 12 % 2, Sum: uint32(n / 24)}
}

func anyAct(random *rand.Rand, kinds int) act {
	calls := "aaaaaaaaaaaaaaaaffffffflc"
	if random.Intn(30) == 0 {
		calls = "x"
	}
	return act{calls[random.Intn(len(calls))], anyContents(random, kinds), anyEntry(random, kinds)}
}

// 11.1 to 11.3: long runs, with few contents and entries and with more.
func TestLongRuns(t *testing.T) {
	for seed := range int64(150) {
		random := rand.New(rand.NewSource(seed))
		kinds := 2 + random.Intn(60)
		x, m := New(), &model{pairs: map[int]known{}}
		for i := range 600 {
			a := anyAct(random, kinds)
			next, answer := doTo(x, a)
			if wanted := m.do(a); answer != wanted {
				t.Fatalf("seed %d, act %d, %s: %s, want %s", seed, i, told([]act{a}), answer, wanted)
			}
			x = next
		}
		want(t, fmt.Sprintf("seed %d, at the end", seed), x.Len(), len(m.pairs))
	}
}

// 11.4: whatever is found was added with contents of that fingerprint, and was not forgotten since.
func TestWhatIsFoundWasAdded(t *testing.T) {
	found := 0
	for seed := range int64(40) {
		random := rand.New(rand.NewSource(seed))
		kinds := 2 + random.Intn(300)
		x := New()
		added := map[known]bool{}
		for i := range 3000 {
			a := anyAct(random, kinds)
			switch a.kind {
			case 'a':
				x.Add(a.b, a.e)
				added[known{fingerOf(a.b), a.e}] = true
			case 'f':
				for _, e := range x.Find(a.b) {
					found++
					if !added[known{fingerOf(a.b), e}] {
						t.Fatalf("seed %d, act %d: %v was not added with %q", seed, i, e, a.b)
					}
				}
			case 'x':
				x.Forget(a.e)
				maps.DeleteFunc(added, func(p known, _ bool) bool { return p.e == a.e })
			case 'c':
				x = x.Copy()
			}
		}
	}
	if found < 1000 {
		t.Errorf("only %d entries were found", found)
	}
}
