package index

import (
	"fmt"
	"testing"

	"matryoshka/api"
)

// 11.2
func TestFindOfNone(t *testing.T) {
	for _, n := range []int{0, 1, 2, 63, 64, 65} {
		x := filled(t, n)
		for _, b := range [][]byte{nil, {}, {0}, []byte("contents"), []byte("contents 0 "), []byte("Contents 0"), contents(n), contents(-1)} {
			if l := x.Find(b); len(l) != 0 {
				t.Errorf("%d pairs, %q: %v", n, b, l)
			}
		}
	}
}

// 11.2: the pairs of one fingerprint among others, in the order in which they were added.
func TestFindInOrder(t *testing.T) {
	x := New()
	for i, start := range []int{9, 3, 12, 2, 1, 30, 4} {
		x.Add([]byte("one"), at(start))
		x.Add(contents(i), at(start))
		x.Add([]byte("other"), at(50-start))
	}
	want(t, "one", x.Find([]byte("one")), ats(9, 3, 12, 2, 1, 30, 4))
	want(t, "other", x.Find([]byte("other")), ats(41, 47, 38, 48, 49, 20, 46))
	want(t, "between", x.Find(contents(2)), ats(12))
}

// 11.2: what was added with bytes of the same fingerprint is found too.
func TestFindOfTwins(t *testing.T) {
	x := New()
	for n, start := range []int{5, 4, 8} {
		x.Add(twins(n), at(start))
		x.Add(contents(n), at(start))
	}
	for n := range 4 {
		want(t, "Find", x.Find(twins(n)), ats(5, 4, 8))
	}
	want(t, "Find of a part", x.Find(twins(0)[:7]), nil)
}

// 11.2
func TestFindBehindTheFirst(t *testing.T) {
	x := New()
	for i := range 6 {
		x.Add([]byte("one"), at(9-i))
		x.Add([]byte("other"), at(i))
	}
	for starts := []int{9, 8, 7, 6, 5, 4}; len(starts) > 0; starts = starts[1:] {
		want(t, "Find", x.Find([]byte("one")), ats(starts...))
		want(t, "Forget", x.Forget(at(starts[0])), true)
	}
	want(t, "Find", fmt.Sprint(x.Find([]byte("one")), x.Find([]byte("other"))), fmt.Sprint(ats(), ats(0, 1, 2, 3)))
}

// 11.2: as the first pairs go, those that are left are found in their order.
func TestFindAsPairsGo(t *testing.T) {
	x := New()
	var pushed []int
	for i := range 200 {
		if i%3 == 0 {
			x.Add([]byte("one"), at(i))
			pushed = append(pushed, i)
		} else {
			x.Add(contents(i), at(i))
		}
		if pushed[0] <= i-64 {
			pushed = pushed[1:]
		}
		want(t, fmt.Sprint("behind ", i), x.Find([]byte("one")), ats(pushed...))
	}
}

// 11.2: all pairs of a full index may be of one fingerprint.
func TestFindOfAll(t *testing.T) {
	x := New()
	for i := range 100 {
		x.Add([]byte("one"), at(200-i))
	}
	var wanted []api.Entry
	for i := 36; i < 100; i++ {
		wanted = append(wanted, at(200-i))
	}
	want(t, "Find", x.Find([]byte("one")), wanted)
}

// 11.2: Find changes nothing.
func TestFindChangesNothing(t *testing.T) {
	x := filled(t, 5)
	all := [][]byte{contents(0), contents(1), contents(4), contents(9)}
	before := state(x, all...)
	for range 3 {
		for _, b := range all {
			x.Find(b)
		}
	}
	want(t, "the state", state(x, all...), before)
}
