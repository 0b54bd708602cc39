package index

import (
	"fmt"
	"slices"
	"testing"

	"matryoshka/api"
)

// 11.3
func TestForgetOfNone(t *testing.T) {
	for _, n := range []int{0, 1, 2, 63, 64, 65} {
		x := filled(t, n)
		all := [][]byte{contents(0), contents(1), contents(n - 1)}
		before := state(x, all...)
		none := append(neighbours(), at(-1), at(n), at(1<<32+n-1))
		if n == 65 {
			none = append(none, at(0))
		}
		for _, e := range none {
			want(t, fmt.Sprint("Forget of ", e), x.Forget(e), false)
		}
		want(t, "the state", state(x, all...), before)
	}
}

// 11.3: an entry that differs in one field is another one.
func TestForgetOfNeighbours(t *testing.T) {
	all := neighbours()[:api.MaxIndex]
	x := New()
	for i, e := range all {
		x.Add(contents(i), e)
	}
	for i, e := range all {
		want(t, fmt.Sprint("Forget of ", e), x.Forget(e), true)
		want(t, "once more", x.Forget(e), false)
		want(t, "Len", x.Len(), 63-i)
		for k, f := range all {
			want(t, fmt.Sprint("Find behind Forget of ", e), slices.Equal(x.Find(contents(k)), []api.Entry{f}), k > i)
		}
	}
}

// 11.3: an entry that one pair has, wherever it is.
func TestForgetOfOne(t *testing.T) {
	for _, n := range []int{1, 2, 3, 4, 63, 64} {
		for i := range n {
			x := filled(t, n)
			want(t, "Forget", x.Forget(at(i)), true)
			left := slices.Delete(numbers(0, n), i, i+1)
			want(t, "what is left", kept(t, x, 0, n), left)
			want(t, "Len", x.Len(), n-1)
			want(t, "once more", x.Forget(at(i)), false)
			want(t, "what is left", kept(t, x, 0, n), left)
		}
	}
}

// pairs is an index of pairs of one entry, '1', and of others, '0', each with contents of its own.
func pairs(where string) *Index {
	x := New()
	for i, c := range where {
		if c == '1' {
			x.Add(contents(i), at(777))
		} else {
			x.Add(contents(i), at(i))
		}
	}
	return x
}

// 11.3: all pairs of an entry go, whatever their fingerprints, wherever they are, and the others stay in their order.
func TestForgetOfSeveral(t *testing.T) {
	for _, where := range []string{"1", "11", "110", "011", "101", "010", "11100", "00111", "10101", "01010", "1111", "1001001", "0110"} {
		x := pairs(where)
		var left []int
		for i, c := range where {
			if c == '0' {
				left = append(left, i)
			}
		}
		want(t, where, x.Forget(at(777)), true)
		want(t, where, kept(t, x, 0, len(where)), left)
		want(t, where, x.Len(), len(left))
		want(t, where+", once more", x.Forget(at(777)), false)
		for n := len(left); n < api.MaxIndex; n++ {
			x.Add(fmt.Append(nil, "another ", n), at(5000+n))
		}
		for n, i := range left {
			want(t, where, x.Find(contents(i)), ats(i))
			x.Add(fmt.Append(nil, "one more ", n), at(6000))
			want(t, where, x.Find(contents(i)), nil)
		}
	}
}

// 11.3: of one fingerprint, only the pairs of the entry go.
func TestForgetWithinOneFingerprint(t *testing.T) {
	x := New()
	for _, start := range []int{4, 2, 3, 5} {
		x.Add([]byte("one"), at(start))
		x.Add([]byte("other"), at(start))
	}
	want(t, "Forget", x.Forget(at(2)), true)
	want(t, "one", x.Find([]byte("one")), ats(4, 3, 5))
	want(t, "other", x.Find([]byte("other")), ats(4, 3, 5))
	want(t, "Forget", x.Forget(at(4)), true)
	want(t, "Forget", x.Forget(at(5)), true)
	want(t, "the last", fmt.Sprint(x.Find([]byte("one")), x.Find([]byte("other")), x.Len()), fmt.Sprint(ats(3), ats(3), 2))
}

// 11.3: a full index of one entry alone.
func TestForgetOfAll(t *testing.T) {
	x := New()
	for i := range 2 * api.MaxIndex {
		x.Add(contents(i), at(2))
	}
	want(t, "Len", x.Len(), 64)
	want(t, "Forget", x.Forget(at(2)), true)
	want(t, "Len", x.Len(), 0)
	for i := range 2 * api.MaxIndex {
		want(t, "Find", x.Find(contents(i)), nil)
	}
	want(t, "once more", x.Forget(at(2)), false)
}
