package maps

import (
	"fmt"
	"slices"
	"strings"
	"testing"

	"matryoshka/api"
)

// checkAdd holds a list with one more bitmap against the words of 13.1.
func checkAdd(t *testing.T, l []api.Bitmap, name string) {
	t.Helper()
	got, errno := Add(l, name)
	want(t, fmt.Sprintf("Add(%+v, %q)", l, name), got, append(slices.Clone(l), api.Bitmap{Name: name, On: true}))
	want(t, "its error", errno, api.OK)
}

// checkRefused holds what Add refuses.
func checkRefused(t *testing.T, l []api.Bitmap, name string, wanted api.Errno) {
	t.Helper()
	got, errno := Add(l, name)
	want(t, fmt.Sprintf("Add(%+v, %q)", l, name), errno, wanted)
	want(t, "its list", got, nil)
}

// 13.1: behind all others, on and empty; and they stay as they were, whatever they are.
func TestAdd(t *testing.T) {
	for _, l := range lists() {
		for len(l) > 7 {
			l = l[1:]
		}
		for _, name := range []string{"y", "z9", "-", "_", ".", "0123456789abcdef", "mm", "m", "a.", "-a"} {
			checkAdd(t, l, name)
		}
	}
	checkAdd(t, mixed()[1:7], "x")
	checkAdd(t, mixed()[3:9], "a")
	checkAdd(t, mixed()[4:11], "c")
}

// 13.1 with 12.1: each byte alone, at the start, within and at the end of a name.
func TestAddOfEveryByte(t *testing.T) {
	l := []api.Bitmap{on("", s(4, 2)), off("No Name", s(0, 2), s(2, 4)), on("another", s(1, 2))}
	for i := range 256 {
		b := string([]byte{byte(i)})
		valid := strings.Contains("abcdefghijklmnopqrstuvwxyz0123456789-_.", b)
		for _, name := range []string{b, "a" + b, b + "9", "a" + b + "z", "0123456_" + b + "-......"} {
			if valid {
				checkAdd(t, l, name)
			} else {
				checkRefused(t, l, name, api.ErrArg)
			}
		}
		checkRefused(t, nil, "abcdefghijklmnop"+b, api.ErrArg)
	}
}

// 13.1 with 12.1: 1 to MaxName bytes, which are not letters of many bytes.
func TestAddOfEveryLength(t *testing.T) {
	for n := range 70 {
		name := strings.Repeat("x", n)
		if 1 <= n && n <= 16 {
			checkAdd(t, full(3), name)
		} else {
			checkRefused(t, full(3), name, api.ErrArg)
		}
	}
	for _, n := range []int{256 + 1, 256 + 16, 65536 + 1, 1 << 20} {
		checkRefused(t, full(3), strings.Repeat("x", n), api.ErrArg)
	}
	for _, name := range []string{"\u00e4", "a\u0301", "\xc3", "\xed\xa0\x80", "A", "a b", "a\n", "a/b", "a\x00"} {
		checkRefused(t, nil, name, api.ErrArg)
	}
}

// 13.1: MaxMaps bitmaps are as many as there may be.
func TestAddUpToMaxMaps(t *testing.T) {
	for n := range 8 {
		checkAdd(t, full(n), "x")
	}
	for _, n := range []int{8, 9, 10, 16, 100} {
		checkRefused(t, full(n), "x", api.ErrMany)
		checkRefused(t, make([]api.Bitmap, n), "x", api.ErrMany)
	}
	var l []api.Bitmap
	for i := range 8 {
		checkAdd(t, l, fmt.Sprint(i))
		l, _ = Add(l, fmt.Sprint(i))
	}
	checkRefused(t, l, "8", api.ErrMany)
	l, _ = Drop(l, "3")
	checkAdd(t, l, "8")
}

// 13.1: ErrTwice for the name of any bitmap, on or off, whatever its set, and for just that name.
func TestAddOfANameThatIsThere(t *testing.T) {
	for _, l := range lists() {
		for _, b := range l {
			if b.Name == "" || b.Name == "No Name" || b.Name == "\xff\x00" {
				checkRefused(t, l, b.Name, api.ErrArg)
				continue
			}
			checkRefused(t, l, b.Name, api.ErrTwice)
		}
	}
	checkAdd(t, []api.Bitmap{on("ab"), off("a."), on("A"), off(""), on(" a"), off("a\x00")}, "a")
}

// 13.1: ErrArg ahead of ErrTwice and ErrMany, ErrTwice ahead of ErrMany.
func TestErrorsOfAddInTheirOrder(t *testing.T) {
	for _, name := range []string{"", "A", "a b", "\xff", "a\x00", "17-letters-are-17"} {
		for _, n := range []int{0, 1, 7, 8, 9} {
			l := full(n)
			checkRefused(t, l, name, api.ErrArg)
			for i := range l {
				l[i].Name = name
			}
			checkRefused(t, l, name, api.ErrArg)
		}
	}
	for _, n := range []int{1, 2, 7, 8, 9, 30} {
		l := full(n)
		for _, b := range l {
			checkRefused(t, l, b.Name, api.ErrTwice)
		}
		l[n-1].Name = "m0"
		checkRefused(t, l, "m0", api.ErrTwice)
	}
}
