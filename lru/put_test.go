package lru

import (
	"bytes"
	"fmt"
	"slices"
	"testing"

	"matryoshka/api"
)

// 10.1
func TestGet(t *testing.T) {
	c := of(t, 3, 7, -7)
	want(t, "a key", got(c, 7), `"of 7"`)
	want(t, "a key below 0", got(c, -7), `"of -7"`)
	want(t, "once more", got(c, 7), `"of 7"`)
	for _, k := range []int{-8, -6, 0, 1, 6, 8} {
		if b, ok := c.Get(k); b != nil || ok {
			t.Errorf("Get(%d) = %q, %v", k, b, ok)
		}
	}
	want(t, "Dirty", c.Dirty(), []int{-7, 7})
}

// 10.1
func TestGetOfWhatIsGone(t *testing.T) {
	c := of(t, 2, 1, 2)
	c.Put(3, nil, false)
	if b, ok := c.Get(1); b != nil || ok {
		t.Errorf("%q, %v", b, ok)
	}
	c.Drop(2)
	if b, ok := c.Get(2); b != nil || ok {
		t.Errorf("%q, %v", b, ok)
	}
	c = of(t, 2, 4, 5)
	c.Flush()
	want(t, "what was flushed", fmt.Sprint(got(c, 4), got(c, 5)), `"of 4""of 5"`)
}

// 10.1
func TestPutOfBytes(t *testing.T) {
	for _, b := range [][]byte{nil, {}, {0}, []byte("some"), make([]byte, 16), bytes.Repeat([]byte("long"), 1<<16)} {
		c := empty(t, 2)
		for _, k := range farKeys {
			for i, x := range [][]byte{b, []byte("others"), b} {
				c.Put(k, x, i == 1)
				if is, ok := c.Get(k); !ok || !bytes.Equal(is, x) {
					t.Fatalf("%d bytes at %d: %d bytes, %v", len(x), k, len(is), ok)
				}
			}
		}
	}
}

// 10.1: all keys are different ones.
func TestPutOfFarKeys(t *testing.T) {
	back := slices.Clone(farKeys)
	slices.Reverse(back)
	for _, keys := range [][]int{farKeys, back} {
		c := of(t, len(keys), keys...)
		for _, k := range keys {
			want(t, "its bytes", got(c, k), fmt.Sprintf("%q", fmt.Sprint("of ", k)))
		}
		want(t, "Dirty", c.Dirty(), farKeys)
		want(t, "Flush", c.Flush(), farKeys)
	}
}

// 10.1: a key is dirty if it was dirty or is put as dirty.
func TestPutDirty(t *testing.T) {
	for _, x := range []struct {
		puts  []bool
		dirty []int
	}{
		{[]bool{false}, nil},
		{[]bool{true}, []int{5}},
		{[]bool{false, false}, nil},
		{[]bool{false, true}, []int{5}},
		{[]bool{true, false}, []int{5}},
		{[]bool{true, true}, []int{5}},
		{[]bool{false, true, false, false}, []int{5}},
	} {
		c := empty(t, 2)
		for _, dirty := range x.puts {
			c.Put(5, nil, dirty)
		}
		what := fmt.Sprint(x.puts)
		want(t, what, c.Dirty(), x.dirty)
		want(t, what, c.Copy().Flush(), x.dirty)
		c.Put(6, nil, false)
		want(t, what, c.Put(7, nil, false), x.dirty)
	}
}

// 10.1: a key that was written, evicted or dropped was not dirty before.
func TestPutOfWhatIsNotDirtyAnyMore(t *testing.T) {
	for _, x := range []struct {
		what string
		do   func(c *Cache)
	}{
		{"flushed", func(c *Cache) { c.Flush() }},
		{"dropped", func(c *Cache) { c.Drop(1) }},
		{"evicted", func(c *Cache) { c.Put(2, nil, false) }},
	} {
		c := of(t, 1, 1)
		x.do(c)
		c.Put(1, nil, false)
		want(t, x.what, c.Dirty(), nil)
		c.Put(1, nil, true)
		want(t, x.what, c.Dirty(), []int{1})
	}
}

// 10.1: a key that is put again has its records still.
func TestPutKeepsRecords(t *testing.T) {
	for _, dirty := range []bool{false, true} {
		c := ordered(t, 3, []int{1, 2, 3}, [2]int{1, 3}, [2]int{1, 2})
		for _, k := range []int{1, 2, 3} {
			want(t, "Put", c.Put(k, []byte("new"), dirty), nil)
		}
		want(t, "After(3, 1)", c.After(3, 1), api.ErrCycle)
		want(t, "Flush", c.Flush(), []int{3, 2, 1})
	}
}

// 10.1: uses, and the keys that go, one after the other.
func TestLeastRecentlyUsed(t *testing.T) {
	for _, x := range []struct {
		what string
		do   func(c *Cache)
		gone string
	}{
		{"as they were put", func(c *Cache) {}, "[1] [2] [3]"},
		{"one was got", func(c *Cache) { c.Get(1) }, "[2] [3] [1]"},
		{"the middle one was got", func(c *Cache) { c.Get(2) }, "[1] [3] [2]"},
		{"the last one was got", func(c *Cache) { c.Get(3) }, "[1] [2] [3]"},
		{"two were got", func(c *Cache) { c.Get(2); c.Get(1) }, "[3] [2] [1]"},
		{"one was got twice", func(c *Cache) { c.Get(1); c.Get(2); c.Get(1) }, "[3] [2] [1]"},
		{"one was put", func(c *Cache) { c.Put(1, nil, false) }, "[2] [3] [1]"},
		{"one was put as dirty", func(c *Cache) { c.Put(2, nil, true) }, "[1] [3] [2]"},
		{"another was asked for", func(c *Cache) { c.Get(4) }, "[1] [2] [3]"},
		{"dirty ones were told", func(c *Cache) { c.Dirty() }, "[1] [2] [3]"},
		{"others were dropped", func(c *Cache) { c.Drop(4); c.Drop(0) }, "[1] [2] [3]"},
		{"a copy was used", func(c *Cache) { c.Copy().Get(1); c.Copy().Put(2, nil, true) }, "[1] [2] [3]"},
		{"one is ordered after another", func(c *Cache) { c.After(2, 1); c.After(3, 2) }, "[1] [2] [3]"},
		{"one would be ordered after itself", func(c *Cache) { c.After(1, 1) }, "[1] [2] [3]"},
		{"all were written", func(c *Cache) { c.Flush() }, "[] [] []"},
		{"two are dirty again", func(c *Cache) { c.Flush(); c.Put(1, nil, true); c.Put(3, nil, true) }, "[] [1] [3]"},
	} {
		c := of(t, 3, 1, 2, 3)
		x.do(c)
		want(t, x.what, fmt.Sprint(c.Put(10, nil, true), c.Put(11, nil, true), c.Put(12, nil, true)), x.gone)
		want(t, x.what+", what is left", held(c, 1, 2, 3, 10, 11, 12), []int{10, 11, 12})
	}
}

// 10.1: what was dropped leaves room.
func TestDropLeavesRoom(t *testing.T) {
	c := of(t, 3, 1, 2, 3)
	c.Drop(1)
	want(t, "in its place", c.Put(4, nil, false), nil)
	want(t, "one more", c.Put(5, nil, false), []int{2})
	want(t, "there", held(c, 1, 2, 3, 4, 5), []int{3, 4, 5})
	c.Drop(4)
	c.Drop(3)
	c.Drop(5)
	for k := range 3 {
		want(t, "in an empty one", c.Put(k, nil, true), nil)
	}
	want(t, "in a full one", c.Put(3, nil, true), []int{0})
}

// 10.1: a key goes without a line if it is not dirty, although others are.
func TestEvictionOfWhatIsNotDirty(t *testing.T) {
	c := empty(t, 3)
	c.Put(1, nil, false)
	c.Put(2, nil, true)
	c.Put(3, nil, true)
	order(t, c, [2]int{2, 3})
	want(t, "it goes", c.Put(4, nil, true), nil)
	want(t, "there", held(c.Copy(), 1, 2, 3, 4), []int{2, 3, 4})
	want(t, "dirty", c.Dirty(), []int{2, 3, 4})
	want(t, "the next one goes", c.Put(5, nil, false), []int{3, 2})
	want(t, "there", held(c, 2, 3, 4, 5), []int{3, 4, 5})
}

// 10.1
func TestRoomForOne(t *testing.T) {
	c := empty(t, 1)
	want(t, "the first", c.Put(1, []byte("a"), true), nil)
	want(t, "the same", c.Put(1, []byte("b"), false), nil)
	want(t, "another", c.Put(2, []byte("c"), false), []int{1})
	want(t, "there", fmt.Sprint(got(c, 1), got(c, 2), c.Dirty()), `no 0"c"[]`)
	want(t, "one more", c.Put(3, []byte("d"), true), nil)
	want(t, "there", fmt.Sprint(got(c, 2), got(c, 3), c.Dirty()), `no 0"d"[3]`)
	want(t, "the first again", c.Put(1, []byte("e"), true), []int{3})
	want(t, "after itself", c.After(1, 1), api.ErrCycle)
	want(t, "there", fmt.Sprint(got(c, 1), got(c, 3), c.Flush(), c.Flush()), `"e"no 0[1] []`)
}

// 10.1: the line of the key that is evicted, which is 0 in each case.
func TestLineOfWhatIsEvicted(t *testing.T) {
	for _, x := range []struct {
		what  string
		pairs [][2]int
		line  []int
		left  []int
	}{
		{"alone", nil, []int{0}, []int{1, 2, 3, 4, 5}},
		{"another is after it", [][2]int{{1, 0}}, []int{0}, []int{1, 2, 3, 4, 5}},
		{"others are ordered", [][2]int{{1, 2}, {3, 2}}, []int{0}, []int{1, 2, 3, 4, 5}},
		{"after one", [][2]int{{0, 4}}, []int{4, 0}, []int{1, 2, 3, 5}},
		{"as recorded, downward", [][2]int{{0, 5}, {0, 3}, {0, 1}}, []int{5, 3, 1, 0}, []int{2, 4}},
		{"as recorded, about", [][2]int{{0, 3}, {0, 5}, {0, 1}, {0, 4}}, []int{3, 5, 1, 4, 0}, []int{2}},
		{"twice", [][2]int{{0, 3}, {0, 1}, {0, 3}}, []int{3, 1, 0}, []int{2, 4, 5}},
		{"steps", [][2]int{{0, 1}, {1, 2}, {2, 3}, {3, 4}, {4, 5}}, []int{5, 4, 3, 2, 1, 0}, nil},
		{"steps, recorded backward", [][2]int{{4, 5}, {3, 4}, {2, 3}, {1, 2}, {0, 1}}, []int{5, 4, 3, 2, 1, 0}, nil},
		{"two ways to one", [][2]int{{0, 1}, {0, 2}, {1, 3}, {2, 3}}, []int{3, 1, 2, 0}, []int{4, 5}},
		{"two ways, one of them short", [][2]int{{0, 3}, {0, 1}, {1, 3}}, []int{3, 1, 0}, []int{2, 4, 5}},
		{"two ways, the short one last", [][2]int{{0, 1}, {1, 3}, {0, 3}}, []int{3, 1, 0}, []int{2, 4, 5}},
		{"two ways, long ones", [][2]int{{0, 2}, {0, 1}, {2, 5}, {1, 4}, {5, 3}, {4, 3}}, []int{3, 5, 2, 4, 1, 0}, nil},
		{"a tree", [][2]int{{0, 2}, {2, 4}, {0, 1}, {2, 3}, {1, 5}}, []int{4, 3, 2, 5, 1, 0}, nil},
		{"others are after what is written", [][2]int{{0, 1}, {2, 1}, {3, 0}, {4, 2}}, []int{1, 0}, []int{2, 3, 4, 5}},
	} {
		c := ordered(t, 6, []int{0, 1, 2, 3, 4, 5}, x.pairs...)
		want(t, x.what, c.Put(9, nil, false), x.line)
		want(t, x.what+", dirty", c.Dirty(), x.left)
		want(t, x.what+", there", held(c.Copy(), 0, 1, 2, 3, 4, 5, 9), []int{1, 2, 3, 4, 5, 9})
	}
}

// 10.1: no record speaks of the keys of a line any more, from either side.
func TestRecordsEndWithTheLine(t *testing.T) {
	pairs := [][2]int{{0, 1}, {0, 2}, {1, 3}, {2, 3}, {4, 0}, {5, 3}, {5, 4}}
	c := ordered(t, 6, []int{0, 1, 2, 3, 4, 5}, pairs...)
	want(t, "the line", c.Put(9, nil, false), []int{3, 1, 2, 0})
	want(t, "what is left", c.Copy().Flush(), []int{4, 5})
	want(t, "a record that is left", c.After(4, 5), api.ErrCycle)
	c.Drop(9)
	for _, k := range []int{0, 1, 2, 3} {
		want(t, "dirty again", c.Put(k, nil, true), nil)
	}
	want(t, "of no records", c.Copy().Flush(), []int{0, 1, 2, 3, 4, 5})
	for _, p := range pairs[:6] {
		want(t, fmt.Sprint("the pair about, ", p), c.Copy().After(p[1], p[0]), api.OK)
	}
	order(t, c, [2]int{3, 1}, [2]int{1, 0})
	want(t, "afresh", c.Flush(), []int{0, 1, 2, 3, 4, 5})
}

// 10.1: a key of a line stays in the cache with its bytes, and goes in its turn without being written again.
func TestKeysOfALineStay(t *testing.T) {
	c := ordered(t, 3, []int{1, 2, 3}, [2]int{1, 2}, [2]int{1, 3})
	want(t, "the line", c.Put(4, nil, true), []int{2, 3, 1})
	d := c.Copy()
	want(t, "their bytes", fmt.Sprint(got(d, 1), got(d, 2), got(d, 3)), `no 0"of 2""of 3"`)
	want(t, "in their turn", fmt.Sprint(c.Put(5, nil, false), c.Put(6, nil, false), c.Put(7, nil, false)), "[] [] [4]")
}

// 10.1: as many keys as there can be in one line.
func TestLongLines(t *testing.T) {
	for _, up := range []bool{true, false} {
		c := empty(t, 1024)
		var line []int
		for k := range 1024 {
			c.Put(k, nil, true)
			line = append(line, 1023-k)
		}
		for i := range 1023 {
			k := i
			if !up {
				k = 1022 - i
			}
			order(t, c, [2]int{k, k + 1})
		}
		want(t, "about", c.After(1023, 0), api.ErrCycle)
		want(t, "Flush", c.Copy().Flush(), line)
		want(t, "Put", c.Put(-1, nil, false), line)
		want(t, "Dirty", c.Dirty(), nil)
	}
}

// 10.1: keys that very many ways reach.
func TestManyWays(t *testing.T) {
	c := empty(t, 120)
	var line []int
	for k := range 120 {
		c.Put(k, nil, true)
		line = append(line, 119-k)
	}
	for k := 118; k >= 0; k-- {
		for first := 119; first > k; first-- {
			if errno := c.After(k, first); errno != api.OK {
				t.Fatalf("After(%d, %d) = %d", k, first, errno)
			}
		}
	}
	want(t, "about", c.After(119, 0), api.ErrCycle)
	want(t, "Flush", c.Copy().Flush(), line)
	want(t, "Put", c.Put(120, nil, false), line)
}
