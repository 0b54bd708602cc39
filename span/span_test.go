package span

import (
	"math"
	"math/rand"
	"slices"
	"sync"
	"testing"

	"matryoshka/api"
)

const most = 1 << 30

func s(from, to int) api.Span {
	return api.Span{From: from, To: to}
}

func list(spans ...api.Span) []api.Span {
	return spans
}

// three are spans with a gap to each side of each.
func three() []api.Span {
	return list(s(2, 4), s(6, 9), s(20, 21))
}

// fits goes the way of the chapter's words for one span.
func fits(x api.Span) bool {
	return !(x.From < 0 || x.To > most || x.From >= x.To)
}

// isValid holds each span against all behind it.
func isValid(l []api.Span) bool {
	for i, x := range l {
		if !fits(x) {
			return false
		}
		for _, y := range l[i+1:] {
			if y.From <= x.To {
				return false
			}
		}
	}
	return true
}

// universe is how many integers, from a base on, the sets of the tests are of.
const universe = 9

// set is some of the integers of a universe.
type set [universe]bool

// spansOf is the list of a set whose universe begins at a base.
func (in set) spansOf(base int) []api.Span {
	var l []api.Span
	for k := range universe {
		if !in[k] {
			continue
		}
		if k > 0 && in[k-1] {
			l[len(l)-1].To++
			continue
		}
		l = append(l, s(base+k, base+k+1))
	}
	return l
}

// turned is the set with the integers of x made members, or made none.
func (in set) turned(base int, x api.Span, member bool) set {
	if !fits(x) {
		return in
	}
	for k := range universe {
		if x.From <= base+k && base+k < x.To {
			in[k] = member
		}
	}
	return in
}

func (in set) count() int {
	n := 0
	for _, member := range in {
		if member {
			n++
		}
	}
	return n
}

// sets are all sets of a universe.
func sets() []set {
	all := make([]set, 1<<universe)
	for i := range all {
		for k := range universe {
			all[i][k] = i>>k&1 == 1
		}
	}
	return all
}

// bases are where universes begin: at the first integer, somewhere, and so that the last integer is theirs.
var bases = []int{0, 1000, most - universe}

// spansAround are all spans, and what are none, that begin and end in a universe or just outside it.
func spansAround(base int) []api.Span {
	var all []api.Span
	for from := -1; from <= universe+1; from++ {
		for to := -1; to <= universe+1; to++ {
			all = append(all, s(base+from, base+to))
		}
	}
	return all
}

// notSpans are what no list may hold.
var notSpans = []api.Span{
	s(0, 0), s(3, 3), s(7, 7), s(most, most), s(4, 2), s(9, 0), s(most, 0), s(-1, 3), s(-1, -1), s(-5, -2), s(-1, 0), s(-1, most), s(3, -1),
	s(0, most+1), s(3, most+1), s(most, most+1), s(most+1, most+2), s(most+1, most), s(0, math.MaxInt), s(math.MinInt, 3),
	s(math.MinInt, math.MaxInt), s(math.MaxInt, math.MinInt), s(math.MaxInt-1, math.MaxInt), s(math.MinInt, math.MinInt+1),
}

// notLists are invalid lists.
func notLists() [][]api.Span {
	all := [][]api.Span{
		list(s(0, 1), s(1, 3)),
		list(s(2, 4), s(4, 5), s(8, 9)),
		list(s(2, 4), s(6, 8), s(8, 9)),
		list(s(0, 5), s(3, 9)),
		list(s(0, 9), s(3, 5)),
		list(s(3, 5), s(0, 9)),
		list(s(2, 3), s(0, 1)),
		list(s(2, 4), s(2, 4)),
		list(s(2, 4), s(8, 9), s(5, 6)),
		list(s(5, 6), s(2, 3), s(8, 9)),
		list(s(2, 4), s(most-1, most), s(most, most+1)),
	}
	for _, x := range notSpans {
		all = append(all, list(x), list(x, s(30, 40)), list(s(0, 1), x), list(s(0, 1), x, s(30, 40)))
	}
	return all
}

func checkRight(t *testing.T, l []api.Span, want bool) {
	t.Helper()
	if got := Right(l); got != want {
		t.Errorf("Right(%v) = %v", l, got)
	}
}

func checkAdd(t *testing.T, l []api.Span, x api.Span, want []api.Span) {
	t.Helper()
	if got := Add(l, x); !slices.Equal(got, want) {
		t.Errorf("Add(%v, %v) = %v, want %v", l, x, got, want)
	}
}

func checkSub(t *testing.T, l []api.Span, x api.Span, want []api.Span) {
	t.Helper()
	if got := Sub(l, x); !slices.Equal(got, want) {
		t.Errorf("Sub(%v, %v) = %v, want %v", l, x, got, want)
	}
}

func checkHas(t *testing.T, l []api.Span, n int, want bool) {
	t.Helper()
	if got := Has(l, n); got != want {
		t.Errorf("Has(%v, %d) = %v", l, n, got)
	}
}

func checkCount(t *testing.T, l []api.Span, want int) {
	t.Helper()
	if got := Count(l); got != want {
		t.Errorf("Count(%v) = %d, want %d", l, got, want)
	}
}

// 4.1
func TestRightOfValidLists(t *testing.T) {
	for _, l := range [][]api.Span{
		nil,
		{},
		list(s(0, 1)),
		list(s(7, 9)),
		list(s(0, 1), s(2, 3)),
		list(s(0, 1), s(2, 3), s(4, 5)),
		three(),
		list(s(0, most)),
		list(s(most-1, most)),
		list(s(0, 1), s(most-1, most)),
		list(s(0, most-2), s(most-1, most)),
	} {
		checkRight(t, l, true)
	}
}

// 4.1
func TestRightOfInvalidLists(t *testing.T) {
	for _, l := range notLists() {
		checkRight(t, l, false)
	}
}

// 4.1
func TestRightOfAllListsOfThreeSpans(t *testing.T) {
	for _, base := range []int{0, most - 4} {
		var some []api.Span
		for from := -1; from <= 5; from++ {
			for to := -1; to <= 5; to++ {
				some = append(some, s(base+from, base+to))
			}
		}
		for _, x := range some {
			checkRight(t, list(x), isValid(list(x)))
			for _, y := range some {
				checkRight(t, list(x, y), isValid(list(x, y)))
				for _, z := range some {
					checkRight(t, list(x, y, z), isValid(list(x, y, z)))
				}
			}
		}
	}
}

// 4.1: a fault is found wherever it stands.
func TestRightOfLongLists(t *testing.T) {
	var l []api.Span
	for i := range 500 {
		l = append(l, s(3*i, 3*i+2))
	}
	checkRight(t, l, true)
	for i := range l {
		for _, fault := range []api.Span{s(3*i, 3*i), s(3*i+1, 3*i), s(3*i-1, 3*i+2), s(3*i, 3*i+3), s(-1, 3*i+2), s(3*i, most+1)} {
			broken := slices.Clone(l)
			broken[i] = fault
			checkRight(t, broken, isValid(broken))
		}
	}
}

// 4.1
func TestAdd(t *testing.T) {
	for _, c := range []struct {
		x    api.Span
		want []api.Span
	}{
		{s(0, 1), list(s(0, 1), s(2, 4), s(6, 9), s(20, 21))},
		{s(25, 30), list(s(2, 4), s(6, 9), s(20, 21), s(25, 30))},
		{s(22, 23), list(s(2, 4), s(6, 9), s(20, 21), s(22, 23))},
		{s(10, 19), list(s(2, 4), s(6, 9), s(10, 19), s(20, 21))},
		{s(14, 15), list(s(2, 4), s(6, 9), s(14, 15), s(20, 21))},
		// It touches the one before, the one behind, both.
		{s(4, 5), list(s(2, 5), s(6, 9), s(20, 21))},
		{s(9, 11), list(s(2, 4), s(6, 11), s(20, 21))},
		{s(21, 22), list(s(2, 4), s(6, 9), s(20, 22))},
		{s(0, 2), list(s(0, 4), s(6, 9), s(20, 21))},
		{s(5, 6), list(s(2, 4), s(5, 9), s(20, 21))},
		{s(19, 20), list(s(2, 4), s(6, 9), s(19, 21))},
		{s(4, 6), list(s(2, 9), s(20, 21))},
		{s(9, 20), list(s(2, 4), s(6, 21))},
		// It lies within one.
		{s(6, 9), three()},
		{s(7, 8), three()},
		{s(6, 7), three()},
		{s(8, 9), three()},
		{s(2, 4), three()},
		{s(20, 21), three()},
		// It lies over several, over all.
		{s(3, 7), list(s(2, 9), s(20, 21))},
		{s(0, 10), list(s(0, 10), s(20, 21))},
		{s(1, 9), list(s(1, 9), s(20, 21))},
		{s(2, 9), list(s(2, 9), s(20, 21))},
		{s(5, 30), list(s(2, 4), s(5, 30))},
		{s(8, 25), list(s(2, 4), s(6, 25))},
		{s(2, 21), list(s(2, 21))},
		{s(3, 20), list(s(2, 21))},
		{s(4, 20), list(s(2, 21))},
		{s(0, 22), list(s(0, 22))},
		{s(0, most), list(s(0, most))},
		{s(21, most), list(s(2, 4), s(6, 9), s(20, most))},
		{s(most-1, most), list(s(2, 4), s(6, 9), s(20, 21), s(most-1, most))},
	} {
		checkAdd(t, three(), c.x, c.want)
	}
	checkAdd(t, list(s(0, 3)), s(3, 5), list(s(0, 5)))
	checkAdd(t, nil, s(1, 2), list(s(1, 2)))
	checkAdd(t, nil, s(0, most), list(s(0, most)))
	checkAdd(t, list(s(0, most)), s(0, most), list(s(0, most)))
	checkAdd(t, list(s(0, most)), s(5, 6), list(s(0, most)))
}

// 4.1
func TestSub(t *testing.T) {
	for _, c := range []struct {
		x    api.Span
		want []api.Span
	}{
		// It takes nothing.
		{s(0, 1), three()},
		{s(0, 2), three()},
		{s(4, 6), three()},
		{s(5, 6), three()},
		{s(4, 5), three()},
		{s(12, 15), three()},
		{s(21, 22), three()},
		{s(21, most), three()},
		// A beginning, an end, a middle, one of them.
		{s(6, 7), list(s(2, 4), s(7, 9), s(20, 21))},
		{s(5, 8), list(s(2, 4), s(8, 9), s(20, 21))},
		{s(8, 9), list(s(2, 4), s(6, 8), s(20, 21))},
		{s(7, 12), list(s(2, 4), s(6, 7), s(20, 21))},
		{s(7, 8), list(s(2, 4), s(6, 7), s(8, 9), s(20, 21))},
		{s(6, 9), list(s(2, 4), s(20, 21))},
		{s(5, 10), list(s(2, 4), s(20, 21))},
		{s(4, 20), list(s(2, 4), s(20, 21))},
		{s(2, 4), list(s(6, 9), s(20, 21))},
		{s(20, 21), list(s(2, 4), s(6, 9))},
		// Of several.
		{s(3, 7), list(s(2, 3), s(7, 9), s(20, 21))},
		{s(2, 7), list(s(7, 9), s(20, 21))},
		{s(3, 9), list(s(2, 3), s(20, 21))},
		{s(3, 21), list(s(2, 3))},
		{s(8, 25), list(s(2, 4), s(6, 8))},
		{s(0, 20), list(s(20, 21))},
		// All.
		{s(2, 21), nil},
		{s(0, 30), nil},
		{s(0, most), nil},
	} {
		checkSub(t, three(), c.x, c.want)
	}
	checkSub(t, nil, s(0, most), nil)
	checkSub(t, list(s(0, most)), s(5, 6), list(s(0, 5), s(6, most)))
	checkSub(t, list(s(0, most)), s(0, most-1), list(s(most-1, most)))
	checkSub(t, list(s(0, most)), s(1, most), list(s(0, 1)))
}

// 4.1
func TestHas(t *testing.T) {
	for _, n := range []int{2, 3, 6, 7, 8, 20} {
		checkHas(t, three(), n, true)
	}
	for _, n := range []int{0, 1, 4, 5, 9, 10, 19, 21, 22, most - 1, most, most + 1, -1, -2, -20, math.MinInt, math.MaxInt} {
		checkHas(t, three(), n, false)
	}
	for _, n := range []int{0, 1, most - 1} {
		checkHas(t, list(s(0, most)), n, true)
		checkHas(t, nil, n, false)
	}
	for _, n := range []int{-1, most, math.MinInt, math.MaxInt} {
		checkHas(t, list(s(0, most)), n, false)
		checkHas(t, nil, n, false)
	}
}

// 4.1
func TestCount(t *testing.T) {
	for _, c := range []struct {
		l    []api.Span
		want int
	}{
		{nil, 0},
		{list(), 0},
		{list(s(0, 1)), 1},
		{list(s(5, 9)), 4},
		{three(), 6},
		{list(s(0, 1), s(most-1, most)), 2},
		{list(s(0, most)), most},
		{list(s(0, 5), s(6, most)), most - 1},
	} {
		checkCount(t, c.l, c.want)
	}
}

// 4.1: an invalid list is the empty one.
func TestInvalidLists(t *testing.T) {
	for _, l := range notLists() {
		for _, x := range list(s(0, 1), s(2, 4), s(7, 9), s(0, most)) {
			checkAdd(t, l, x, list(x))
			checkSub(t, l, x, nil)
		}
		for _, x := range notSpans {
			checkAdd(t, l, x, nil)
			checkSub(t, l, x, nil)
		}
		for n := -2; n < 45; n++ {
			checkHas(t, l, n, false)
		}
		checkHas(t, l, most-1, false)
		checkCount(t, l, 0)
	}
}

// 4.1: an invalid span, or an empty one, is the empty range.
func TestInvalidSpans(t *testing.T) {
	for _, l := range [][]api.Span{nil, list(s(0, 1)), list(s(0, 5), s(7, 9)), three(), list(s(0, most)), list(s(most-3, most))} {
		for _, x := range notSpans {
			checkAdd(t, l, x, l)
			checkSub(t, l, x, l)
		}
	}
}

// 4.1: all lists and all spans of a small universe.
func TestAllSets(t *testing.T) {
	for _, base := range bases {
		around := spansAround(base)
		for _, in := range sets() {
			l := in.spansOf(base)
			checkRight(t, l, true)
			checkCount(t, l, in.count())
			for k := -2; k < universe+2; k++ {
				checkHas(t, l, base+k, 0 <= k && k < universe && in[k])
			}
			for _, x := range around {
				checkSub(t, l, x, in.turned(base, x, false).spansOf(base))
				// What is added outside the universe its sets do not tell.
				if !fits(x) || base <= x.From && x.To <= base+universe {
					checkAdd(t, l, x, in.turned(base, x, true).spansOf(base))
				}
			}
		}
	}
}

// 4.3
func TestAddAndSubOfOneSpan(t *testing.T) {
	check := func(l []api.Span, x api.Span) {
		t.Helper()
		if got, want := Sub(Add(l, x), x), Sub(l, x); !slices.Equal(got, want) {
			t.Errorf("%v, %v added and taken: %v, want %v", l, x, got, want)
		}
		if got, want := Add(Sub(l, x), x), Add(l, x); !slices.Equal(got, want) {
			t.Errorf("%v, %v taken and added: %v, want %v", l, x, got, want)
		}
	}
	for _, base := range bases {
		for _, in := range sets() {
			for _, x := range spansAround(base) {
				check(in.spansOf(base), x)
			}
		}
	}
	for _, x := range append(notSpans, s(0, 1), s(2, 4), s(3, 35), s(0, most)) {
		for _, l := range notLists() {
			check(l, x)
		}
	}
}

// 4.1: whatever is added and taken, the list is valid, and of the numbers that are in it.
func TestManyTurns(t *testing.T) {
	r := rand.New(rand.NewSource(4))
	for range 100 {
		var in [300]bool
		var l []api.Span
		for range 60 {
			from := r.Intn(len(in))
			x, member := s(from, from+1+r.Intn(min(40, len(in)-from))), r.Intn(3) > 0
			if member {
				l = Add(l, x)
			} else {
				l = Sub(l, x)
			}
			for n := x.From; n < x.To; n++ {
				in[n] = member
			}
		}
		count := 0
		for n, member := range in {
			checkHas(t, l, n, member)
			if member {
				count++
			}
		}
		checkCount(t, l, count)
		checkRight(t, l, isValid(l))
		checkRight(t, l, true)
	}
}

// spare is a copy of l with something behind its end.
func spare(l []api.Span) (given, room []api.Span) {
	room = append(make([]api.Span, 0, len(l)+9), l...)
	room = append(room, s(100, 101), s(-7, 3), s(5, 5))
	return room[:len(l)], room
}

// R3
func TestArgumentsAreNotChanged(t *testing.T) {
	for _, l := range append(notLists(), nil, list(), three(), list(s(0, most)), list(s(0, 50), s(99, 100))) {
		given, room := spare(l)
		before := slices.Clone(room)
		for _, x := range append(notSpans, s(0, 1), s(3, 7), s(7, 8), s(9, 20), s(4, 6), s(50, 60), s(0, most)) {
			Add(given, x)
			Sub(given, x)
		}
		Right(given)
		Has(given, 7)
		Count(given)
		if !slices.Equal(room, before) {
			t.Errorf("%v was changed to %v", before, room)
		}
	}
}

// R3: what stands behind the end of a list is none of it.
func TestSpareCapacityDoesNotCount(t *testing.T) {
	given, _ := spare(three())
	checkRight(t, given, true)
	checkCount(t, given, 6)
	checkHas(t, given, 100, false)
	checkAdd(t, given, s(4, 6), list(s(2, 9), s(20, 21)))
	checkSub(t, given, s(4, 6), three())
}

// scribble writes over all of a list, and into its spare capacity.
func scribble(l []api.Span) {
	l = l[:cap(l)]
	for i := range l {
		l[i] = s(-77, -78)
	}
}

// R3
func TestResultsAreNewMemory(t *testing.T) {
	for _, l := range append(notLists(), nil, three(), list(s(0, most))) {
		for _, x := range append(notSpans, s(0, 1), s(3, 7), s(7, 8), s(30, 40), s(4, 6), s(0, most)) {
			for _, call := range []func([]api.Span, api.Span) []api.Span{Add, Sub} {
				given, room := spare(l)
				before := slices.Clone(room)
				first, second := call(given, x), call(given, x)
				want := slices.Clone(second)
				scribble(append(first, s(1, 2)))
				scribble(first)
				if !slices.Equal(room, before) || !slices.Equal(second, want) {
					t.Fatalf("%v, %v: the list is %v, want %v, a result %v, want %v", l, x, room, before, second, want)
				}
				scribble(room)
				if !slices.Equal(second, want) || !slices.Equal(call(l, x), want) {
					t.Fatalf("%v, %v: the result is %v, want %v", l, x, second, want)
				}
			}
		}
	}
}

// R3
func TestNilAndEmptyAreEquivalent(t *testing.T) {
	for _, l := range [][]api.Span{nil, {}, make([]api.Span, 0, 9), three()[:0]} {
		checkRight(t, l, true)
		checkCount(t, l, 0)
		checkHas(t, l, 0, false)
		checkHas(t, l, 2, false)
		checkAdd(t, l, s(2, 4), list(s(2, 4)))
		checkAdd(t, l, s(2, 2), nil)
		checkSub(t, l, s(2, 4), nil)
		checkSub(t, l, s(2, 2), nil)
	}
}

// R1 and R5: the same calls have the same results, whatever runs beside them.
func TestCallsShareNothing(t *testing.T) {
	l := three()
	var all sync.WaitGroup
	for k := range 8 {
		all.Go(func() {
			for range 300 {
				checkAdd(t, l, s(10+k, 19), list(s(2, 4), s(6, 9), s(10+k, 19), s(20, 21)))
				checkSub(t, l, s(8, 12+k), list(s(2, 4), s(6, 8), s(20, 21)))
				checkHas(t, l, 10+k, false)
				checkCount(t, l, 6)
				checkRight(t, l, true)
			}
		})
	}
	all.Wait()
}
