package shots

import (
	"fmt"
	"slices"
	"testing"

	"matryoshka/api"
)

// checkAdd holds a meta with one more shot against the words of 12.2.
func checkAdd(t *testing.T, m api.Meta, name string) {
	t.Helper()
	wanted := m
	wanted.Shots = append(slices.Clone(m.Shots), api.Shot{Name: name, Size: m.Size, T: m.T})
	got, errno := Add(m, name)
	want(t, fmt.Sprintf("Add(%+v, %q)", m, name), got, wanted)
	want(t, "its error", errno, api.OK)
}

// checkRefused holds what Add refuses.
func checkRefused(t *testing.T, m api.Meta, name string, wanted api.Errno) {
	t.Helper()
	got, errno := Add(m, name)
	want(t, fmt.Sprintf("Add(%+v, %q)", m, name), errno, wanted)
	want(t, "its meta", got, api.Meta{})
}

// full is a meta with so many shots.
func full(n int) api.Meta {
	m := right()
	m.Shots = nil
	for i := range n {
		m.Shots = append(m.Shots, shotsOf(fmt.Sprint("s", i))...)
	}
	return m
}

// 12.2
func TestAdd(t *testing.T) {
	checkAdd(t, api.Meta{}, "x")
	checkAdd(t, right(), "x")
	checkAdd(t, right(), "aa")
	checkAdd(t, right(), "0123456789abcdef")
	checkAdd(t, right(), ".")
	m := right()
	m.T, m.Size = api.Table{}, 0
	checkAdd(t, m, "none")
}

// 12.2: what is not right is taken as it is.
func TestAddToWrongMetas(t *testing.T) {
	for _, m := range wrongs() {
		checkAdd(t, m, "x")
		checkAdd(t, m, "no")
		checkRefused(t, m, "a", api.ErrTwice)
		checkRefused(t, m, "", api.ErrArg)
	}
}

// 12.2: MaxShots shots are as many as there may be.
func TestAddUpToMaxShots(t *testing.T) {
	for n := range 8 {
		checkAdd(t, full(n), "x")
	}
	for _, n := range []int{8, 9, 10, 16, 100} {
		checkRefused(t, full(n), "x", api.ErrMany)
	}
	m := api.Meta{Size: 5}
	for i := range 8 {
		name := fmt.Sprint(i)
		checkAdd(t, m, name)
		m, _ = Add(m, name)
	}
	checkRefused(t, m, "8", api.ErrMany)
	want(t, "the names", namesOf(m), "0 1 2 3 4 5 6 7")
}

// 12.2: ErrArg ahead of ErrTwice and ErrMany, ErrTwice ahead of ErrMany.
func TestErrorsOfAddInTheirOrder(t *testing.T) {
	for _, name := range []string{"", "A", "a b", "\xff", "a\x00", "17-letters-are-17"} {
		for _, n := range []int{0, 1, 7, 8, 9} {
			m := full(n)
			checkRefused(t, m, name, api.ErrArg)
			for i := range m.Shots {
				m.Shots[i].Name = name
			}
			checkRefused(t, m, name, api.ErrArg)
		}
	}
	for _, n := range []int{1, 2, 7, 8, 9, 30} {
		m := full(n)
		for i := range n {
			checkRefused(t, m, fmt.Sprint("s", i), api.ErrTwice)
		}
		m.Shots[n-1].Name = "s0"
		checkRefused(t, m, "s0", api.ErrTwice)
	}
}

// 12.2: only a shot of just that name stands in the way, no bitmap and no backing image.
func TestAddBesideOtherNames(t *testing.T) {
	m := right()
	for _, name := range []string{"m", "n", "below", "ab", "a.", ".a", "aa", "d"} {
		checkAdd(t, m, name)
	}
	m.Shots = append(m.Shots, shotsOf("A", "", "a ", "x\x00")...)
	checkAdd(t, m, "x")
	checkRefused(t, m, "a", api.ErrTwice)
}
