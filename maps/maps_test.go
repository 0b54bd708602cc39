package maps

import (
	"fmt"
	"slices"
	"sync"
	"testing"

	"matryoshka/api"
)

const most = 1 << 30 // what all numbers of a set are below

func want[T any](t *testing.T, what string, got, wanted T) {
	t.Helper()
	if g, w := fmt.Sprintf("%+v", got), fmt.Sprintf("%+v", wanted); g != w {
		t.Fatalf("%s: %s, want %s", what, g, w)
	}
}

func s(from, to int) api.Span {
	return api.Span{From: from, To: to}
}

func on(name string, l ...api.Span) api.Bitmap {
	return api.Bitmap{Name: name, On: true, L: l}
}

func off(name string, l ...api.Span) api.Bitmap {
	return api.Bitmap{Name: name, L: l}
}

// noLists are lists of spans that are not valid.
func noLists() [][]api.Span {
	return [][]api.Span{
		{s(3, 3)}, {s(5, 4)}, {s(0, 0)}, {s(-1, 2)}, {s(-5, -3)}, {s(0, most+1)}, {s(most, most+1)}, {s(most, most)},
		{s(-1<<63, 1<<63-1)}, {s(1<<62, 1<<62+5)}, {s(0, 2), s(2, 4)}, {s(0, 3), s(2, 4)}, {s(6, 7), s(1, 2)},
		{s(1, 2), s(1, 2)}, {s(0, 1), s(9, 9)}, {s(0, 1), s(3, 5), s(5, 6)}, {s(2, 2), s(5, 6)}, {s(1, 9), s(3, 4)},
	}
}

// noSpans are spans that are not valid, and those that are empty among them.
func noSpans() []api.Span {
	return []api.Span{
		{}, s(3, 3), s(most, most), s(5, 4), s(4, 0), s(-1, 3), s(-3, -1), s(-1, 0), s(-1, most), s(0, most+1), s(4, most+1), s(most, most+1),
		s(-1, most+1), s(0, 1<<40), s(0, 1<<63-1), s(-1<<63, 0), s(-1<<63, 5), s(-1<<63, 1<<63-1), s(1<<63-1, -1<<63), s(1<<32, 1<<32+4),
	}
}

// full is a list of so many bitmaps, each of which is unlike the others.
func full(n int) []api.Bitmap {
	var l []api.Bitmap
	for i := range n {
		l = append(l, api.Bitmap{Name: fmt.Sprint("m", i), On: i%3 > 0, L: []api.Span{s(i, i+1), s(2*i+5, 2*i+9)}})
	}
	return l
}

// mixed is a list of bitmaps of many kinds, in which few things are right.
func mixed() []api.Bitmap {
	return []api.Bitmap{
		on("a", s(2, 4)), off("b", s(0, 1), s(3, 9)), off("a", s(5, 7)), on("c"), on("", s(4, 2)), off("No Name", s(0, 2), s(2, 4)),
		on("b", s(most-2, most)), off("e"), on("x", s(-4, 1<<40)), on("a", s(8, 9), s(1, 2)), off("\xff\x00", s(1, 5)), off("c", s(7, 7)),
	}
}

// lists are lists of bitmaps of several kinds.
func lists() [][]api.Bitmap {
	return [][]api.Bitmap{
		nil, {}, {on("a")}, {off("a")}, {on("a", s(2, 4))}, {off("b", s(0, 1), s(3, 9)), on("a", s(0, most))}, {on("a", s(3, 1)), off("b", s(0, 2), s(1, 3))},
		{on("a", s(1, 2)), on("a", s(3, 4)), off("a", s(5, 6)), off("b"), on("b", s(7, 8))}, {on("", s(1, 2)), off("")}, full(7), full(8), full(9), mixed(), mixed()[:7],
	}
}

// names are names that bitmaps of lists have, and some that none has.
func names() []string {
	return []string{"a", "b", "c", "e", "x", "", "No Name", "\xff\x00", "m0", "m3", "m6", "m7", "m8", "m9", "new", "A", "aa", "a\x00", " a"}
}

// placeIn is where the first bitmap of a name stands.
func placeIn(l []api.Bitmap, name string) int {
	return slices.IndexFunc(l, func(b api.Bitmap) bool { return b.Name == name })
}

// isList goes by the words of 4.1.
func isList(l []api.Span) bool {
	for i, x := range l {
		if x.From < 0 || x.To > most || x.From >= x.To || i > 0 && x.From <= l[i-1].To {
			return false
		}
	}
	return true
}

// numbersOf are the numbers of a list from base on, below end; an invalid list has none.
func numbersOf(l []api.Span, base, end int) map[int]bool {
	in := map[int]bool{}
	if !isList(l) {
		return in
	}
	for _, x := range l {
		for n := max(x.From, base); n < min(x.To, end); n++ {
			in[n] = true
		}
	}
	return in
}

// spansOf is the list of the numbers from base on, below end.
func spansOf(in map[int]bool, base, end int) []api.Span {
	var l []api.Span
	for n := base; n < end; n++ {
		switch {
		case !in[n]:
		case n > base && in[n-1]:
			l[len(l)-1].To++
		default:
			l = append(l, s(n, n+1))
		}
	}
	return l
}

// allSets are all lists of numbers from base on, below end.
func allSets(base, end int) [][]api.Span {
	var all [][]api.Span
	for bits := range 1 << (end - base) {
		in := map[int]bool{}
		for n := base; n < end; n++ {
			in[n] = bits>>(n-base)&1 == 1
		}
		all = append(all, spansOf(in, base, end))
	}
	return all
}

// results are what all calls return.
type results struct {
	add, drop, turnOn, turnOff, clear, merge []api.Bitmap
	errnos                                   [6]api.Errno
	touch, size                              []api.Bitmap
}

// call makes all calls with these arguments.
func call(l []api.Bitmap, name, other string, x api.Span, was, now int) results {
	var r results
	r.add, r.errnos[0] = Add(l, name)
	r.drop, r.errnos[1] = Drop(l, name)
	r.turnOn, r.errnos[2] = Turn(l, name, true)
	r.turnOff, r.errnos[3] = Turn(l, name, false)
	r.clear, r.errnos[4] = Clear(l, name)
	r.merge, r.errnos[5] = Merge(l, name, other)
	r.touch, r.size = Touch(l, x), Size(l, was, now)
	return r
}

// R1 and R5: the same calls have the same results, whatever runs beside them.
func TestCallsShareNothing(t *testing.T) {
	var calls []func() results
	for i, l := range lists() {
		for j, name := range names() {
			x, other := s(i, i+j), names()[(3*i+j)%len(names())]
			calls = append(calls, func() results { return call(l, name, other, x, i+j, 2*i) })
		}
	}
	var wanted []string
	for _, f := range calls {
		wanted = append(wanted, fmt.Sprint(f()))
	}
	var all sync.WaitGroup
	for range 8 {
		all.Go(func() {
			for i, f := range calls {
				if fmt.Sprint(f()) != wanted[i] {
					t.Errorf("another result for %d", i)
				}
			}
		})
	}
	all.Wait()
}

// R1: nothing panics, and everything ends, for numbers and names of every kind.
func TestAnyArguments(t *testing.T) {
	numbers := []int{-1 << 63, -1<<63 + 1, -1 << 32, -most, -1, 0, 1, most - 1, most, most + 1, 1 << 32, 1<<63 - 2, 1<<63 - 1}
	for _, l := range append(lists(), full(1000), full(100000)) {
		for _, was := range numbers {
			for _, now := range numbers {
				if len(l) < 100 || was == 0 && now == most {
					call(l, "a", "b", s(was, now), was, now)
				}
			}
		}
	}
}

// 13: the example.
func TestExample(t *testing.T) {
	l, errno := Add(nil, "a")
	want(t, "Add", errno, api.OK)
	l = Touch(l, s(2, 4))
	want(t, "Touch", l, []api.Bitmap{on("a", s(2, 4))})
	l, errno = Clear(l, "a")
	want(t, "Clear", errno, api.OK)
	want(t, "the set", l, []api.Bitmap{on("a")})
}
