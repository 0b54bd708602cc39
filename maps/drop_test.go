package maps

import (
	"fmt"
	"slices"
	"testing"

	"matryoshka/api"
)

// changedAt is l, with one of its bitmaps changed.
func changedAt(l []api.Bitmap, place int, change func(b *api.Bitmap)) []api.Bitmap {
	out := slices.Clone(l)
	change(&out[place])
	return out
}

// checkOne holds Drop, Turn and Clear of one bitmap against the words of 13.1.
func checkOne(t *testing.T, l []api.Bitmap, name string) {
	t.Helper()
	what, place := fmt.Sprintf("%q of %+v", name, l), placeIn(l, name)
	got, errno := Drop(l, name)
	want(t, "Drop "+what, got, append(slices.Clone(l[:place]), l[place+1:]...))
	want(t, "its error", errno, api.OK)
	got, errno = Clear(l, name)
	want(t, "Clear "+what, got, changedAt(l, place, func(b *api.Bitmap) { b.L = nil }))
	want(t, "its error", errno, api.OK)
	for _, on := range []bool{false, true} {
		got, errno = Turn(l, name, on)
		want(t, fmt.Sprint("Turn ", on, " ", what), got, changedAt(l, place, func(b *api.Bitmap) { b.On = on }))
		want(t, "its error", errno, api.OK)
	}
}

// checkNone is that no call finds a bitmap.
func checkNone(t *testing.T, l []api.Bitmap, name string) {
	t.Helper()
	r := call(l, name, name, s(0, 1), 0, 1)
	what := fmt.Sprintf("%q of %+v", name, l)
	want(t, "the errors, "+what, fmt.Sprint(r.errnos[1:]), fmt.Sprint([]api.Errno{4, 4, 4, 4, 4}))
	want(t, "the lists, "+what, fmt.Sprint(r.drop, r.turnOn, r.turnOff, r.clear, r.merge), "[] [] [] [] []")
}

// 13.1
func TestDropTurnAndClear(t *testing.T) {
	for _, l := range lists() {
		for _, name := range names() {
			if placeIn(l, name) >= 0 {
				checkOne(t, l, name)
			} else {
				checkNone(t, l, name)
			}
		}
	}
}

// 13.1: in the middle and at both ends, among few and many.
func TestOneOfMany(t *testing.T) {
	for _, n := range []int{1, 2, 3, 7, 8, 9, 40} {
		l := full(n)
		for _, b := range l {
			checkOne(t, l, b.Name)
		}
		checkNone(t, l, fmt.Sprint("m", n))
	}
}

// 13.1: the first of several of one name, in all short lists of a few names.
func TestTheFirstOfOneName(t *testing.T) {
	all := [][]api.Bitmap{nil}
	for len(all[0]) < 6 {
		l := all[0]
		all = all[1:]
		for _, name := range []string{"a", "b", "c"} {
			checkOneOrNone(t, l, name)
			on := (len(l)+len(name)+len(all))%2 == 0
			all = append(all, append(slices.Clone(l), api.Bitmap{Name: name, On: on, L: []api.Span{s(len(l), 10+len(l))}}))
		}
	}
}

func checkOneOrNone(t *testing.T, l []api.Bitmap, name string) {
	t.Helper()
	if placeIn(l, name) < 0 {
		checkNone(t, l, name)
		return
	}
	checkOne(t, l, name)
}

// 13.1: a name that is almost that of a bitmap.
func TestNamesThatNoBitmapHas(t *testing.T) {
	l := []api.Bitmap{on("ab", s(1, 2)), off("a-", s(1, 2)), on("A"), off("a\x00"), on("a a"), off(" a"), on("\u00e4")}
	for _, name := range []string{"a", "b", "", "abc", "a\x00\x00", "AB", "Ab", "\xc3", "a ", "e", "0", "-1", "0123456789abcdefg"} {
		checkNone(t, l, name)
	}
	for _, b := range l {
		checkOne(t, l, b.Name)
	}
}

// 13.1: calls upon the results of calls.
func TestDropTurnAndClearUntilNoneIsLeft(t *testing.T) {
	l := full(8)
	for _, name := range []string{"m3", "m0", "m7", "m5", "m1", "m6", "m2", "m4"} {
		checkOne(t, l, name)
		l, _ = Turn(l, name, false)
		checkOne(t, l, name)
		l, _ = Clear(l, name)
		checkOne(t, l, name)
		l, _ = Drop(l, name)
		checkNone(t, l, name)
	}
	want(t, "what is left", len(l), 0)
}
