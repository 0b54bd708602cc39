package shots

import (
	"fmt"
	"slices"
	"strings"
	"testing"

	"matryoshka/api"
)

// checkDrop holds a meta without one of its shots, and that shot, against what is wanted.
func checkDrop(t *testing.T, m api.Meta, name string, place int) {
	t.Helper()
	wanted := m
	wanted.Shots = append(slices.Clone(m.Shots[:place]), m.Shots[place+1:]...)
	got, errno := Drop(m, name)
	want(t, fmt.Sprintf("Drop(%+v, %q)", m, name), got, wanted)
	want(t, "its error", errno, api.OK)
	found, ok := Find(m, name)
	want(t, fmt.Sprintf("Find(%+v, %q)", m, name), found, m.Shots[place])
	want(t, "whether there is one", ok, true)
}

// checkNone is that no call finds a shot.
func checkNone(t *testing.T, m api.Meta, name string) {
	t.Helper()
	what := fmt.Sprintf("%q of %+v", name, m)
	dropped, errno := Drop(m, name)
	want(t, "Drop, "+what, errno, api.ErrName)
	want(t, "its meta", dropped, api.Meta{})
	back, errno := Back(m, name)
	want(t, "Back, "+what, errno, api.ErrName)
	want(t, "its meta", back, api.Meta{})
	found, ok := Find(m, name)
	want(t, "Find, "+what, ok, false)
	want(t, "its shot", found, api.Shot{})
}

// 12.2: in the middle and at both ends, among few and many.
func TestDropAndFind(t *testing.T) {
	for _, n := range []int{1, 2, 3, 7, 8, 9, 40} {
		m := full(n)
		for i := range m.Shots {
			m.Shots[i].Size = i
		}
		for i := range n {
			checkDrop(t, m, fmt.Sprint("s", i), i)
		}
	}
}

// 12.2: the first one of a name counts, and the others stay.
func TestTheFirstOfOneName(t *testing.T) {
	for _, c := range []struct {
		names string
		place int
	}{{"a a", 0}, {"a b a", 0}, {"b a a", 1}, {"b c a b c a a", 2}, {"a a a a a a a a a", 0}, {"b b b a", 3}, {"A aa a a", 2}} {
		m := right()
		m.Shots = shotsOf(strings.Fields(c.names)...)
		checkDrop(t, m, "a", c.place)
	}
	m := right()
	m.Shots = shotsOf("a", "b", "a", "c", "a")
	for _, names := range []string{"b a c a", "b c a", "b c"} {
		m, _ = Drop(m, "a")
		want(t, "the names", namesOf(m), names)
	}
	checkNone(t, m, "a")
}

// 12.2: Drop and Find ask for no valid name.
func TestDropAndFindInWrongMetas(t *testing.T) {
	for _, m := range wrongs() {
		for name, place := range map[string]int{"a": 0, "": 1, "No Name": 3, "\xff\x00": 4} {
			checkDrop(t, m, name, place)
		}
		for _, name := range []string{"b", "m", "x", "\xff", "no name"} {
			checkNone(t, m, name)
		}
	}
}

// 12.2
func TestNamesThatNoShotHas(t *testing.T) {
	for _, name := range []string{"", "d", "A", "aa", "a ", "a\x00", "m", "below", "\xff", strings.Repeat("a", 1<<20)} {
		checkNone(t, right(), name)
		checkNone(t, api.Meta{}, name)
	}
	for _, name := range []string{"a", "b", "c"} {
		m, _ := Drop(right(), name)
		checkNone(t, m, name)
	}
}

// The chapter's example: Add followed by Drop returns the original meta.
func TestAddFollowedByDrop(t *testing.T) {
	all := append(wrongs(), right(), api.Meta{}, full(7))
	for _, m := range all {
		for _, name := range []string{"x", "new", "z.9"} {
			added, errno := Add(m, name)
			want(t, "Add", errno, api.OK)
			checkDrop(t, added, name, len(m.Shots))
			dropped, _ := Drop(added, name)
			want(t, "the original", dropped, m)
		}
	}
}
