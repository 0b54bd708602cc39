package index

import (
	"bytes"
	"fmt"
	"hash/fnv"
	"slices"
	"strings"
	"sync"
	"testing"

	"matryoshka/api"
)

func want[T any](t *testing.T, what string, got, wanted T) {
	t.Helper()
	if g, w := fmt.Sprint(got), fmt.Sprint(wanted); g != w {
		t.Fatalf("%s: %s, want %s", what, g, w)
	}
}

// at is an entry that starts at this sector.
func at(start int) api.Entry {
	return api.Entry{Kind: api.EntryRaw, Start: start, Count: 1, Sum: 7}
}

// ats are entries that start at these sectors.
func ats(starts ...int) []api.Entry {
	var l []api.Entry
	for _, start := range starts {
		l = append(l, at(start))
	}
	return l
}

// contents are bytes that differ for each i.
func contents(i int) []byte {
	return []byte(fmt.Sprint("contents ", i))
}

// fingerOf is a fingerprint by the library.
func fingerOf(b []byte) uint64 {
	whole := fnv.New64a()
	whole.Write(b)
	return whole.Sum64() ^ whole.Sum64()>>32
}

// twins are unlike bytes of one fingerprint: the first eight turn h into 0, and zeros leave it so.
func twins(n int) []byte {
	return append([]byte{0xd5, 0x6b, 0xb9, 0x53, 0x42, 0x87, 0x08, 0x36}, make([]byte, n)...)
}

// filled is an index of the pairs of contents(i) and at(i), for each i from 0 to n - 1.
func filled(t *testing.T, n int) *Index {
	t.Helper()
	x := New()
	for i := range n {
		x.Add(contents(i), at(i))
		want(t, "Len", x.Len(), min(i+1, 64))
	}
	return x
}

// kept tells which of contents(from) to contents(to - 1) the index finds, with the entry at(i) alone.
func kept(t *testing.T, x *Index, from, to int) []int {
	t.Helper()
	var l []int
	for i := from; i < to; i++ {
		found := x.Find(contents(i))
		if len(found) > 0 {
			want(t, fmt.Sprint("the entries of ", i), found, ats(i))
			l = append(l, i)
		}
	}
	return l
}

// numbers are from, from + 1, .. , to - 1.
func numbers(from, to int) []int {
	var l []int
	for i := from; i < to; i++ {
		l = append(l, i)
	}
	return l
}

// finds tells what is found of each of some contents.
func finds(x *Index, all ...[]byte) string {
	told := []string{fmt.Sprint(x.Len())}
	for _, b := range all {
		told = append(told, fmt.Sprint(x.Find(b)))
	}
	return strings.Join(told, " ")
}

// state tells all that calls can show of an index of these contents: what is found, and what is found still as one pair
// after the other goes.
func state(x *Index, all ...[]byte) string {
	rest := x.Copy()
	told := []string{finds(rest, all...)}
	for n := range api.MaxIndex {
		rest.Add(fmt.Append(nil, "another ", n), at(1<<40+n))
		told = append(told, finds(rest, all...))
	}
	return strings.Join(told, "; ")
}

func TestTwinsHaveOneFingerprint(t *testing.T) {
	for n := range 4 {
		want(t, "a twin", fingerOf(twins(n)), 0)
	}
}

// 11.1 to 11.3
func TestNew(t *testing.T) {
	x := New()
	if x == nil {
		t.Fatal("New is nil")
	}
	want(t, "Len", x.Len(), 0)
	want(t, "Find", len(x.Find(nil))+len(x.Find([]byte("b"))), 0)
	want(t, "Forget", x.Forget(at(2)) || x.Forget(api.Entry{}), false)
	want(t, "Len of a copy", x.Copy().Len(), 0)
}

// 11.2: the chapter's example.
func TestExample(t *testing.T) {
	for _, b := range [][]byte{nil, {}, {0}, []byte("b"), bytes.Repeat([]byte("long"), 1000)} {
		x := New()
		x.Add(b, at(2))
		want(t, "Find", x.Find(b), ats(2))
	}
}

// 11.3
func TestLen(t *testing.T) {
	x := New()
	for i, l := range []int{1, 2, 2, 2, 3} {
		x.Add(contents([]int{0, 1, 0, 1, 2}[i]), at(9))
		want(t, fmt.Sprint("behind Add ", i), x.Len(), l)
	}
	x.Find(contents(0))
	x.Find(contents(3))
	x.Forget(at(8))
	want(t, "behind calls that find nothing or change nothing", x.Len(), 3)
	x.Forget(at(9))
	want(t, "behind Forget", x.Len(), 0)
	x.Add(contents(0), at(9))
	want(t, "afresh", x.Len(), 1)
}

// 11.3: a copy has the same pairs in the same order, of indexes of each length.
func TestCopyHasTheSamePairs(t *testing.T) {
	for n := range api.MaxIndex + 3 {
		x := New()
		for i := range n {
			x.Add(contents(i%5), at(i))
		}
		all := [][]byte{contents(0), contents(1), contents(2), contents(3), contents(4)}
		c := x.Copy()
		want(t, "what is found", finds(c, all...), finds(x, all...))
		want(t, "the state", state(c, all...), state(x, all...))
		want(t, "that of a copy of a copy", state(c.Copy(), all...), state(x, all...))
	}
}

// changes are calls that change an index that filled has made, and one that has been done to already.
func changes() map[string]func(x *Index) {
	return map[string]func(x *Index){
		"Add": func(x *Index) { x.Add([]byte("more"), at(1000)) },
		"Add of a known entry": func(x *Index) {
			x.Add(contents(0), at(1))
		},
		"Add of many": func(x *Index) {
			for i := range 2 * api.MaxIndex {
				x.Add(contents(3000+i), at(3000+i))
			}
		},
		"Forget of the first":  func(x *Index) { x.Forget(at(0)) },
		"Forget of the second": func(x *Index) { x.Forget(at(1)) },
		"Forget of all": func(x *Index) {
			for i := range api.MaxIndex {
				x.Forget(at(i))
			}
		},
		"Forget, then Add": func(x *Index) {
			x.Forget(at(0))
			x.Forget(at(1))
			x.Add([]byte("more"), at(1001))
			x.Add([]byte("and more"), at(1002))
		},
	}
}

// 11.3: what is done to an index changes nothing of its copy, and the other way round, also when it is full.
func TestCopyIsIndependent(t *testing.T) {
	all := [][]byte{contents(0), contents(1), contents(2), contents(62), contents(63), []byte("more"), []byte("and more")}
	for _, n := range []int{0, 1, 2, 3, 4, 5, 8, 63, 64} {
		for what, change := range changes() {
			what = fmt.Sprintf("%s, %d pairs", what, n)
			x := filled(t, n)
			c := x.Copy()
			before := state(x, all...)
			change(x)
			changed := state(x, all...)
			want(t, what+": the copy", state(c, all...), before)
			late := x.Copy()
			want(t, what+": a later copy", state(late, all...), changed)
			change(c)
			want(t, what+": done to the copy", state(c, all...), changed)
			want(t, what+": the index", state(x, all...), changed)
			c.Add([]byte("only here"), at(5000))
			x.Add([]byte("only there"), at(6000))
			want(t, what+": their own", fmt.Sprint(c.Find([]byte("only there")), x.Find([]byte("only here"))), "[] []")
			want(t, what+": their own", fmt.Sprint(c.Find([]byte("only here")), x.Find([]byte("only there"))), fmt.Sprint(ats(5000), ats(6000)))
			want(t, what+": the later copy", state(late, all...), changed)
		}
	}
}

func TestNilIndex(t *testing.T) {
	var x *Index
	for _, b := range [][]byte{nil, {}, []byte("b")} {
		for _, e := range []api.Entry{{}, at(2), at(-1)} {
			x.Add(b, e)
			if x.Find(b) != nil || x.Forget(e) || x.Len() != 0 || x.Copy() != nil {
				t.Errorf("a nil index knows %q, %v", b, e)
			}
		}
	}
}

// R1: what New did not make is empty, and nothing panics.
func TestZeroIndex(t *testing.T) {
	var x Index
	want(t, "empty", fmt.Sprint(x.Find(nil), x.Forget(at(2)), x.Len(), x.Copy().Len()), "[] false 0 0")
	x.Add(nil, at(2))
	want(t, "one pair", fmt.Sprint(x.Find(nil), x.Len(), x.Forget(at(2)), x.Len()), fmt.Sprint(ats(2), 1, true, 0))
}

// Chapter 11, Ways: the searches that have found something are counted.
func TestSuccessfulSearchesAreCounted(t *testing.T) {
	x := New()
	x.Find(nil)
	want(t, "none", x.found.Load(), 0)
	x.Add(nil, at(2))
	x.Add(nil, at(3))
	x.Find([]byte{})
	x.Find([]byte("b"))
	x.Find(nil)
	want(t, "two of four", x.found.Load(), 2)
}

// R1 and R5: the same calls have the same results, whatever runs beside them.
func TestIndexesShareNothing(t *testing.T) {
	run := func() string {
		x := New()
		var told []string
		for i := range 500 {
			x.Add(contents(i*i%97), at(i%13))
			told = append(told, finds(x, contents(i%97), contents(i*3%97)))
			if i%7 == 0 {
				told = append(told, fmt.Sprint(x.Forget(at(i%14))))
				x = x.Copy()
			}
		}
		return strings.Join(append(told, state(x, contents(0), contents(1), contents(4))), " ")
	}
	wanted := run()
	answers := make([]string, 8)
	var together sync.WaitGroup
	for i := range answers {
		together.Go(func() { answers[i] = run() })
	}
	together.Wait()
	if slices.ContainsFunc(answers, func(s string) bool { return s != wanted }) {
		t.Error("the same calls had other results")
	}
}
