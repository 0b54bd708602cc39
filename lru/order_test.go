package lru

import (
	"fmt"
	"testing"

	"matryoshka/api"
)

// 10.2: keys 1 to 4 are dirty, of which 1 is after 2, 2 after 3, and 1 after 4; 5 is not dirty, and 6 is not there.
func TestAfter(t *testing.T) {
	for _, x := range []struct {
		k, first int
		errno    api.Errno
	}{
		{1, 2, api.OK}, {1, 3, api.OK}, {1, 4, api.OK}, {2, 3, api.OK}, {2, 4, api.OK}, {3, 4, api.OK}, {4, 3, api.OK}, {4, 2, api.OK},
		{1, 1, api.ErrCycle}, {2, 2, api.ErrCycle}, {4, 4, api.ErrCycle},
		{2, 1, api.ErrCycle}, {3, 2, api.ErrCycle}, {4, 1, api.ErrCycle},
		{3, 1, api.ErrCycle},
		{1, 5, api.ErrNone}, {5, 1, api.ErrNone}, {5, 5, api.ErrNone},
		{1, 6, api.ErrNone}, {6, 1, api.ErrNone}, {6, 6, api.ErrNone}, {5, 6, api.ErrNone}, {6, 5, api.ErrNone},
		{1, -1, api.ErrNone}, {-1, 1, api.ErrNone}, {0, 0, api.ErrNone},
	} {
		c := ordered(t, 9, []int{1, 2, 3, 4}, [2]int{1, 2}, [2]int{2, 3}, [2]int{1, 4})
		c.Put(5, nil, false)
		before := state(c, 1, 2, 3, 4, 5, 6)
		want(t, fmt.Sprintf("After(%d, %d)", x.k, x.first), c.After(x.k, x.first), x.errno)
		if x.errno != api.OK {
			want(t, fmt.Sprintf("behind After(%d, %d)", x.k, x.first), state(c, 1, 2, 3, 4, 5, 6), before)
		}
	}
}

// 10.2: what was dirty is not any more.
func TestAfterOfWhatWasDirty(t *testing.T) {
	for _, x := range []struct {
		what string
		do   func(c *Cache)
	}{
		{"flushed", func(c *Cache) { c.Flush(); c.Put(2, nil, true); c.Put(3, nil, true) }},
		{"dropped", func(c *Cache) { c.Drop(1) }},
		{"dropped, put as not dirty", func(c *Cache) { c.Drop(1); c.Put(1, nil, false) }},
		{"evicted", func(c *Cache) { c.Put(4, nil, true) }},
		{"written ahead of another", func(c *Cache) { c.After(2, 1); c.Get(1); c.Put(4, nil, true); c.Drop(4); c.Put(2, nil, true) }},
	} {
		c := of(t, 3, 1, 2, 3)
		x.do(c)
		want(t, x.what, fmt.Sprint(c.After(1, 2), c.After(2, 1), c.After(1, 1)), "15 15 15")
		want(t, x.what+", others", c.After(2, 3), api.OK)
	}
}

// 10.2: circles of so many keys, and none without one of their pairs.
func TestCircles(t *testing.T) {
	for _, n := range []int{1, 2, 3, 4, 10, 100, 1024} {
		for _, gap := range []int{0, n / 2, n - 1} {
			c := empty(t, n)
			for k := range n {
				c.Put(k, nil, true)
			}
			for k := range n {
				if k != gap {
					order(t, c, [2]int{k, (k + 1) % n})
				}
			}
			want(t, fmt.Sprintf("the last of %d", n), c.After(gap, (gap+1)%n), api.ErrCycle)
			if n > 2 {
				want(t, fmt.Sprintf("a chord of %d", n), c.After((gap+1)%n, gap), api.OK)
			}
			want(t, fmt.Sprintf("the keys of %d", n), len(c.Flush()), n)
		}
	}
}

// 10.2: all pairs of a few keys, held against what each of them reaches.
func TestEveryOrderOfFourKeys(t *testing.T) {
	for mask := range 1 << 12 {
		c := of(t, 4, 0, 1, 2, 3)
		var reaches [4][4]bool
		bit := 0
		for k := range 4 {
			for first := range 4 {
				if k == first {
					continue
				}
				asked := mask>>bit&1 == 1
				bit++
				if !asked {
					continue
				}
				wanted := api.OK
				if reaches[first][k] {
					wanted = api.ErrCycle
				}
				want(t, fmt.Sprintf("mask %d, After(%d, %d)", mask, k, first), c.After(k, first), wanted)
				if wanted == api.OK {
					join(&reaches, k, first)
				}
			}
		}
		checkOrder(t, fmt.Sprint("mask ", mask), c.Flush(), reaches)
	}
}

// join lets k reach first, and all that reach k all that first reaches.
func join(reaches *[4][4]bool, k, first int) {
	for a := range 4 {
		for b := range 4 {
			if (a == k || reaches[a][k]) && (b == first || reaches[first][b]) {
				reaches[a][b] = true
			}
		}
	}
}

// checkOrder holds the order of the four keys against what each of them reaches.
func checkOrder(t *testing.T, what string, written []int, reaches [4][4]bool) {
	t.Helper()
	want(t, what, len(written), 4)
	for i, k := range written {
		for _, later := range written[i+1:] {
			if k == later || reaches[k][later] {
				t.Fatalf("%s: %v", what, written)
			}
		}
	}
}

// 10.2: recording the same pair again does not change the order of the lines.
func TestAfterTwice(t *testing.T) {
	c := ordered(t, 4, []int{1, 2, 3, 4}, [2]int{1, 4}, [2]int{1, 3}, [2]int{1, 2})
	for _, p := range [][2]int{{1, 4}, {1, 2}, {1, 3}, {1, 4}, {1, 4}} {
		before := state(c, 1, 2, 3, 4)
		order(t, c, p)
		want(t, fmt.Sprint("again ", p), state(c, 1, 2, 3, 4), before)
	}
	want(t, "Flush", c.Copy().Flush(), []int{4, 3, 2, 1})
	c.Drop(4)
	want(t, "nothing of the pair is left", fmt.Sprint(c.Put(4, nil, true), c.After(4, 1), c.Flush()), "[] 0 [3 2 1 4]")
}

// 10.2: a record ends when one of its keys is written, evicted or dropped; here 1 is after 2.
func TestRecordsEnd(t *testing.T) {
	for _, x := range []struct {
		what string
		do   func(c *Cache)
	}{
		{"both were written", func(c *Cache) { c.Flush() }},
		{"the latter was dropped", func(c *Cache) { c.Drop(1) }},
		{"the former was dropped", func(c *Cache) { c.Drop(2) }},
		{"both were dropped", func(c *Cache) { c.Drop(2); c.Drop(1) }},
		{"the latter was evicted", func(c *Cache) { c.Put(3, nil, false); c.Drop(3) }},
		{"the former was evicted", func(c *Cache) { c.Get(1); c.Put(3, nil, false); c.Drop(3) }},
		{"both were evicted", func(c *Cache) { c.Put(3, nil, false); c.Put(4, nil, false); c.Drop(3); c.Drop(4) }},
	} {
		c := ordered(t, 2, []int{1, 2}, [2]int{1, 2})
		x.do(c)
		c.Put(1, []byte("1"), true)
		c.Put(2, []byte("2"), true)
		c.Get(1)
		want(t, x.what, state(c, 1, 2), state(again(t, false), 1, 2))
		order(t, c, [2]int{2, 1})
		want(t, x.what+", the pair about", state(c, 1, 2), state(again(t, true), 1, 2))
		want(t, x.what+", as it was", c.After(1, 2), api.ErrCycle)
	}
}

// again is a cache as it is where no record is left, and then where 2 is after 1.
func again(t *testing.T, about bool) *Cache {
	c := empty(t, 2)
	c.Put(2, []byte("2"), true)
	c.Put(1, []byte("1"), true)
	if about {
		order(t, c, [2]int{2, 1})
	}
	return c
}

// 10.2: a record that has ended has lost its place in the order.
func TestRecordedAfresh(t *testing.T) {
	c := ordered(t, 5, []int{1, 2, 3, 4}, [2]int{1, 2}, [2]int{1, 3}, [2]int{1, 4})
	c.Drop(2)
	c.Put(2, nil, true)
	want(t, "behind Drop", c.Copy().Flush(), []int{3, 4, 1, 2})
	order(t, c, [2]int{1, 2})
	want(t, "afresh", c.Copy().Flush(), []int{3, 4, 2, 1})
	c.Get(1)
	c.Get(2)
	c.Get(4)
	c.Put(5, nil, false)
	want(t, "the former is evicted", c.Put(6, nil, false), []int{3})
	want(t, "what is left", c.Copy().Flush(), []int{4, 2, 1})
	c.Drop(6)
	c.Put(3, nil, true)
	order(t, c, [2]int{1, 3}, [2]int{3, 4})
	want(t, "what is left", c.Flush(), []int{4, 2, 3, 1})
}

// 10.2
func TestFlush(t *testing.T) {
	for _, x := range []struct {
		what  string
		pairs [][2]int
		lines []int
	}{
		{"no order", nil, []int{-3, 0, 1, 2, 5, 8}},
		{"ascending", [][2]int{{0, -3}, {1, 0}, {8, 5}}, []int{-3, 0, 1, 2, 5, 8}},
		{"descending", [][2]int{{-3, 0}, {0, 1}, {1, 2}, {2, 5}, {5, 8}}, []int{8, 5, 2, 1, 0, -3}},
		{"the last one first", [][2]int{{-3, 8}}, []int{8, -3, 0, 1, 2, 5}},
		{"the first one last", [][2]int{{8, 0}, {-3, 8}}, []int{0, 8, -3, 1, 2, 5}},
		{"all after one", [][2]int{{8, 2}, {5, 2}, {1, 2}, {0, 2}, {-3, 2}}, []int{2, -3, 0, 1, 5, 8}},
		{"one after all", [][2]int{{0, 8}, {0, -3}, {0, 1}, {0, 5}, {0, 2}}, []int{-3, 8, 1, 5, 2, 0}},
		{"two lines that share", [][2]int{{0, 5}, {0, 2}, {1, 2}, {1, 8}}, []int{-3, 5, 2, 0, 8, 1}},
		{"about the middle", [][2]int{{1, 5}, {5, -3}, {2, 8}, {8, 1}}, []int{-3, 0, 5, 1, 8, 2}},
	} {
		c := ordered(t, 7, []int{2, 8, -3, 1, 5, 0}, x.pairs...)
		c.Put(4, nil, false)
		want(t, x.what, c.Flush(), x.lines)
		want(t, x.what+", dirty", len(c.Dirty())+len(c.Flush()), 0)
		want(t, x.what+", there", held(c, -3, 0, 1, 2, 4, 5, 8), []int{-3, 0, 1, 2, 4, 5, 8})
		for _, k := range []int{8, 5, 2, 1, 0, -3} {
			c.Put(k, nil, true)
		}
		want(t, x.what+", no record", c.Flush(), []int{-3, 0, 1, 2, 5, 8})
	}
}

// 10.2
func TestFlushOfNothing(t *testing.T) {
	c := empty(t, 3)
	want(t, "an empty one", len(c.Flush()), 0)
	c.Put(1, []byte("1"), false)
	want(t, "none dirty", len(c.Flush()), 0)
	want(t, "its bytes", got(c, 1), `"1"`)
	c.Put(2, nil, true)
	c.Drop(2)
	want(t, "dropped", len(c.Flush()), 0)
}

// 10.2: only the lines of Flush make a key clean: its bytes and its use stay.
func TestFlushKeepsUses(t *testing.T) {
	c := ordered(t, 3, []int{3, 1, 2}, [2]int{3, 1})
	c.Flush()
	want(t, "bytes", fmt.Sprint(got(c.Copy(), 1), got(c.Copy(), 2), got(c.Copy(), 3)), `"of 1""of 2""of 3"`)
	c.Put(4, nil, false)
	want(t, "the first to go", held(c.Copy(), 1, 2, 3), []int{1, 2})
	c.Put(5, nil, false)
	want(t, "the next to go", held(c.Copy(), 1, 2, 3), []int{2})
}

// 10.2: of the keys 1 to 5, each but the last is after the next one; 6 is not dirty.
func TestDrop(t *testing.T) {
	for _, x := range []struct {
		what  string
		keys  []int
		dirty []int
		lines []int
	}{
		{"none", nil, []int{1, 2, 3, 4, 5}, []int{5, 4, 3, 2, 1}},
		{"missing", []int{0, 7, -1, 1 << 40}, []int{1, 2, 3, 4, 5}, []int{5, 4, 3, 2, 1}},
		{"not dirty", []int{6}, []int{1, 2, 3, 4, 5}, []int{5, 4, 3, 2, 1}},
		{"the last", []int{1}, []int{2, 3, 4, 5}, []int{5, 4, 3, 2}},
		{"the first", []int{5}, []int{1, 2, 3, 4}, []int{4, 3, 2, 1}},
		{"in the middle", []int{3}, []int{1, 2, 4, 5}, []int{2, 1, 5, 4}},
		{"twice", []int{3, 3}, []int{1, 2, 4, 5}, []int{2, 1, 5, 4}},
		{"two in the middle", []int{2, 4}, []int{1, 3, 5}, []int{1, 3, 5}},
		{"all", []int{1, 2, 3, 4, 5, 6}, nil, nil},
	} {
		c := ordered(t, 6, []int{1, 2, 3, 4, 5}, [2]int{1, 2}, [2]int{2, 3}, [2]int{3, 4}, [2]int{4, 5})
		c.Put(6, nil, false)
		for _, k := range x.keys {
			c.Drop(k)
			want(t, x.what, got(c, k), "no 0")
		}
		want(t, x.what+", dirty", c.Dirty(), x.dirty)
		want(t, x.what+", lines", c.Flush(), x.lines)
	}
}

// 10.2: a key between two others does not order them any more when it is dropped.
func TestDropEndsACircle(t *testing.T) {
	c := ordered(t, 3, []int{1, 2, 3}, [2]int{1, 2}, [2]int{2, 3})
	want(t, "about", c.After(3, 1), api.ErrCycle)
	c.Drop(2)
	want(t, "about", c.After(3, 1), api.OK)
	c.Put(2, nil, true)
	want(t, "Flush", c.Flush(), []int{1, 2, 3})
}

// 10.2
func TestDirty(t *testing.T) {
	c := empty(t, 20)
	want(t, "an empty one", len(c.Dirty()), 0)
	for i, k := range []int{5, -9, 17, 3, 0, 12, -1, 4} {
		c.Put(k, nil, i%4 != 3)
	}
	want(t, "some", c.Dirty(), []int{-9, -1, 0, 5, 12, 17})
	want(t, "once more", c.Dirty(), []int{-9, -1, 0, 5, 12, 17})
	c.Put(4, nil, true)
	c.Drop(0)
	want(t, "others", c.Dirty(), []int{-9, -1, 4, 5, 12, 17})
	c.Flush()
	want(t, "behind Flush", len(c.Dirty()), 0)
}

// 10.2: what is done to one of two changes nothing of the other.
func TestCopy(t *testing.T) {
	keys := []int{1, 2, 3, 4, 5, 6}
	lit := func() *Cache {
		c := ordered(t, 5, []int{4, 1, 3, 2}, [2]int{1, 3}, [2]int{1, 2}, [2]int{2, 4})
		c.Put(5, []byte("not dirty"), false)
		c.Get(4)
		return c
	}
	fresh := state(lit(), keys...)
	for i, do := range []func(c *Cache){
		func(c *Cache) { c.Get(1) },
		func(c *Cache) { c.Put(3, []byte("other"), false) },
		func(c *Cache) { c.Put(5, nil, true) },
		func(c *Cache) { c.Put(6, nil, true) },
		func(c *Cache) { c.Put(6, nil, false); c.Put(7, nil, true) },
		func(c *Cache) { c.After(3, 2) },
		func(c *Cache) { c.After(1, 4); c.Drop(2) },
		func(c *Cache) { c.Drop(2) },
		func(c *Cache) { c.Drop(4); c.Put(4, nil, true) },
		func(c *Cache) { c.Drop(3); c.Put(3, nil, true); c.After(3, 1) },
		func(c *Cache) { c.Flush() },
		func(c *Cache) { c.Flush(); c.Put(1, nil, true); c.Put(3, nil, true); c.After(3, 1) },
	} {
		c := lit()
		d := c.Copy()
		want(t, fmt.Sprint("a copy ", i), state(d, keys...), fresh)
		do(c)
		want(t, fmt.Sprint("the copy stands ", i), state(d, keys...), fresh)
		changed := state(c, keys...)
		if changed == fresh {
			t.Fatalf("nothing was done by %d", i)
		}
		do(d)
		want(t, fmt.Sprint("the copy does the same ", i), state(d, keys...), changed)
		want(t, fmt.Sprint("the cache stands ", i), state(c, keys...), changed)
	}
}

// 10.2: both record in the same place of their lists.
func TestCopyRecordsForItself(t *testing.T) {
	for n := range 9 {
		c := of(t, 20, 0, 1, 2, 3, 4, 5, 6, 7, 8, 9, 10)
		var line []int
		for first := 1; first <= n; first++ {
			order(t, c, [2]int{0, first})
			line = append(line, first)
		}
		d := c.Copy()
		order(t, c, [2]int{0, 10})
		order(t, d, [2]int{0, 9})
		want(t, "one", c.Flush()[:n+2], append(line, 10, 0))
		want(t, "the other", d.Flush()[:n+2], append(line, 9, 0))
	}
}

// 10.2
func TestCopyOfAnEmptyCache(t *testing.T) {
	c := empty(t, 2)
	d := c.Copy()
	c.Put(1, nil, true)
	want(t, "Dirty", len(d.Dirty()), 0)
	want(t, "its room", fmt.Sprint(d.Put(1, nil, true), d.Put(2, nil, true), d.Put(3, nil, true)), "[] [] [1]")
}
