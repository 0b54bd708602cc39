package lru

import (
	"fmt"
	"math"
	"slices"
	"strings"
	"sync"
	"testing"

	"matryoshka/api"
)

var farKeys = []int{math.MinInt, math.MinInt + 1, -1 << 32, -1025, -2, -1, 0, 1, 1024, 1 << 16, 1 << 32, 1 << 62, math.MaxInt - 1, math.MaxInt}

func want[T any](t *testing.T, what string, got, wanted T) {
	t.Helper()
	if g, w := fmt.Sprint(got), fmt.Sprint(wanted); g != w {
		t.Fatalf("%s: %s, want %s", what, g, w)
	}
}

// empty is an empty cache.
func empty(t *testing.T, room int) *Cache {
	t.Helper()
	c, errno := New(room)
	if c == nil || errno != api.OK {
		t.Fatalf("New(%d) = %v, %d", room, c, errno)
	}
	return c
}

// of is a cache of dirty keys, of which the first is the least recently used one.
func of(t *testing.T, room int, keys ...int) *Cache {
	t.Helper()
	c := empty(t, room)
	for _, k := range keys {
		want(t, fmt.Sprint("Put of ", k), c.Put(k, []byte(fmt.Sprint("of ", k)), true), nil)
	}
	return c
}

// order records pairs, each a key and the one that it is ordered after.
func order(t *testing.T, c *Cache, pairs ...[2]int) {
	t.Helper()
	for _, p := range pairs {
		want(t, fmt.Sprintf("After(%d, %d)", p[0], p[1]), c.After(p[0], p[1]), api.OK)
	}
}

// ordered is a cache of dirty keys, some of which are ordered after others.
func ordered(t *testing.T, room int, keys []int, pairs ...[2]int) *Cache {
	t.Helper()
	c := of(t, room, keys...)
	order(t, c, pairs...)
	return c
}

// got tells what Get answers.
func got(c *Cache, k int) string {
	b, ok := c.Get(k)
	if !ok {
		return fmt.Sprint("no ", len(b))
	}
	return fmt.Sprintf("%q", b)
}

// held tells which of the keys are there.
func held(c *Cache, keys ...int) []int {
	var l []int
	for _, k := range keys {
		if _, ok := c.Get(k); ok {
			l = append(l, k)
		}
	}
	return l
}

// state tells all that calls can show of a cache: what is stored under these keys, which are dirty, what After answers
// for each two of them, what is written as one after the other is evicted, and what Flush returns.
func state(c *Cache, keys ...int) string {
	var all []string
	look := c.Copy()
	for _, k := range keys {
		all = append(all, got(look, k))
		for _, first := range keys {
			all = append(all, fmt.Sprint(c.Copy().After(k, first)))
		}
	}
	all = append(all, fmt.Sprint(c.Dirty(), c.Copy().Flush()))
	gone := c.Copy()
	for fresh := range 5 {
		all = append(all, fmt.Sprint(gone.Put(1<<40+fresh, nil, false), held(gone.Copy(), keys...)))
	}
	return strings.Join(all, " ")
}

// 10.1
func TestNew(t *testing.T) {
	for _, room := range []int{1, 2, 3, 16, 17, 1023, 1024} {
		c := empty(t, room)
		want(t, "Dirty", c.Dirty(), nil)
		want(t, "Flush", c.Flush(), nil)
		for _, k := range farKeys {
			want(t, fmt.Sprint("Get of ", k), got(c, k), "no 0")
		}
	}
	for _, room := range []int{math.MinInt, math.MinInt + 1, -1 << 32, -1024, -2, -1, 0, 1025, 1026, 2048, 1 << 16, 1<<32 + 1, math.MaxInt - 1, math.MaxInt} {
		if c, errno := New(room); c != nil || errno != api.ErrArg {
			t.Errorf("New(%d) = %v, %d", room, c, errno)
		}
	}
}

// 10.1: there is room for just so many keys.
func TestRoom(t *testing.T) {
	for _, room := range []int{1, 2, 3, 16, 17, 1023, 1024} {
		c := empty(t, room)
		for k := range room {
			want(t, "Put", c.Put(k, nil, true), nil)
		}
		want(t, "Dirty", len(c.Dirty()), room)
		for n := range 5 {
			var written []int
			if n < room {
				written = []int{n}
			}
			want(t, fmt.Sprintf("room %d, one more", room), c.Put(room+n, nil, false), written)
			want(t, "Dirty", len(c.Dirty()), max(0, room-n-1))
			keys := make([]int, room+n+1)
			for k := range keys {
				keys[k] = k
			}
			want(t, fmt.Sprintf("room %d, there", room), held(c.Copy(), keys...), keys[n+1:])
		}
	}
}

// 10.2: the chapter's example.
func TestExample(t *testing.T) {
	c := of(t, 2, 1, 2)
	want(t, "After(1, 2)", c.After(1, 2), api.OK)
	want(t, "Flush", c.Flush(), []int{2, 1})
}

func TestNilCache(t *testing.T) {
	var c *Cache
	for _, k := range farKeys {
		for _, b := range [][]byte{nil, {}, []byte("b")} {
			want(t, "Put", len(c.Put(k, b, true))+len(c.Put(k, b, false)), 0)
		}
		if b, ok := c.Get(k); b != nil || ok {
			t.Errorf("Get(%d) = %q, %v", k, b, ok)
		}
		c.Drop(k)
		want(t, "After", c.After(k, k), api.ErrNone)
		want(t, "After", c.After(k, k^1), api.ErrNone)
	}
	if c.Flush() != nil || c.Dirty() != nil || c.Copy() != nil {
		t.Error("Flush, Dirty or Copy of a nil cache isn't nil")
	}
}

// R1: what New did not make has no room, and nothing panics.
func TestCacheOfNoRoom(t *testing.T) {
	var c Cache
	want(t, "dirty", c.Put(1, nil, true), []int{1})
	want(t, "not dirty", c.Put(1, nil, false), nil)
	want(t, "Get", got(&c, 1), "no 0")
	want(t, "After", c.After(1, 1), api.ErrNone)
	c.Drop(1)
	want(t, "the rest", fmt.Sprint(c.Flush(), c.Dirty(), c.Copy().Dirty()), "[] [] []")
}

// R1 and R5: the same calls have the same results, whatever runs beside them.
func TestCachesShareNothing(t *testing.T) {
	run := func() string {
		c, _ := New(5)
		var all []string
		for i := range 400 {
			k := i * i % 7
			all = append(all, fmt.Sprint(c.Put(k, []byte{byte(i)}, i%3 > 0), c.After(i%7, k), c.After(k, i%5), got(c, i%4)))
			if i%11 == 0 {
				c.Drop(i % 6)
				c = c.Copy()
			}
		}
		return strings.Join(append(all, state(c, 0, 1, 2, 3, 4, 5, 6)), " ")
	}
	wanted := run()
	answers := make([]string, 8)
	var together sync.WaitGroup
	for i := range answers {
		together.Go(func() { answers[i] = run() })
	}
	together.Wait()
	if slices.ContainsFunc(answers, func(s string) bool { return s != wanted }) {
		t.Error("the same calls had other results")
	}
}
