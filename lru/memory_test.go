package lru

import (
	"bytes"
	"fmt"
	"math"
	"slices"
	"testing"

	"matryoshka/api"
)

// roomy is bytes like b with spare capacity, in which there are marks.
func roomy(b string) []byte {
	room := append([]byte(b), bytes.Repeat([]byte{'#'}, 40)...)
	return room[:len(b)]
}

// scribble writes over all that the memory of a list holds, and appends to it.
func scribble[T any](l []T, mark T) {
	for i := range l[:cap(l)] {
		l[:cap(l)][i] = mark
	}
	_ = append(l, mark, mark)
	_ = append(l[:0], mark)
}

// R3: what is put is neither changed nor kept, nor is its spare capacity.
func TestBytesAreNeitherChangedNorKept(t *testing.T) {
	for _, text := range []string{"", "b", "bytes", "sixteen bytes, 1", "seventeen bytes 1"} {
		for _, dirty := range []bool{false, true} {
			c := empty(t, 2)
			b := roomy(text)
			before := string(b[:cap(b)])
			c.Put(1, b, dirty)
			c.Put(1, b, dirty)
			c.Put(2, b, dirty)
			d := c.Copy()
			x, _ := c.Get(1)
			scribble(x, '!')
			c.After(1, 2)
			c.Put(3, b[:0], dirty)
			c.Flush()
			c.Drop(2)
			want(t, "the bytes that were put", string(b[:cap(b)]), before)
			scribble(b, '?')
			for _, k := range []int{1, 2} {
				want(t, "a copy", got(d, k), fmt.Sprintf("%q", text))
			}
			want(t, "empty ones", got(c, 3), `""`)
		}
	}
}

// R3: a piece of what was put becomes the same bytes whatever is written into the whole.
func TestOneArrayUnderManyKeys(t *testing.T) {
	c := empty(t, 8)
	b := roomy("........")
	for k := range 8 {
		b[k] = byte('0' + k)
		c.Put(k, b[:k+1], false)
	}
	scribble(b, '?')
	for k := range 8 {
		want(t, "a piece", got(c, k), fmt.Sprintf("%q", "01234567"[:k+1]))
	}
}

// R3: writing into what Get returns changes neither the cache, nor a copy, nor what it returns else.
func TestBytesOfGetAreNew(t *testing.T) {
	for _, text := range []string{"", "b", "bytes", "sixteen bytes, 1", "seventeen bytes 1"} {
		c := empty(t, 2)
		c.Put(1, []byte(text), true)
		early := c.Copy()
		x, _ := c.Get(1)
		y, _ := c.Get(1)
		late := c.Copy()
		scribble(x, '?')
		want(t, "another result", string(y), text)
		for _, c := range []*Cache{c, early, late} {
			want(t, "the bytes", got(c, 1), fmt.Sprintf("%q", text))
		}
		c.Put(1, []byte("other bytes, and more"), false)
		c.Drop(1)
		want(t, "a result behind Put and Drop", string(y), text)
	}
}

// R3: writing into lists of keys changes nothing.
func TestListsAreNew(t *testing.T) {
	lit := func() *Cache {
		return ordered(t, 5, []int{1, 2, 3, 4, 5}, [2]int{1, 3}, [2]int{1, 2}, [2]int{2, 5}, [2]int{4, 5})
	}
	for _, x := range []struct {
		what string
		call func(c *Cache) []int
		keys []int
	}{
		{"Dirty", (*Cache).Dirty, []int{1, 2, 3, 4, 5}},
		{"Flush", (*Cache).Flush, []int{3, 5, 2, 1, 4}},
		{"Put", func(c *Cache) []int { return c.Put(6, nil, false) }, []int{3, 5, 2, 1}},
	} {
		c, d := lit(), lit()
		l, same := x.call(c), x.call(d)
		scribble(l, 77)
		want(t, x.what+", another result", same, x.keys)
		want(t, x.what+", the cache", state(c, 1, 2, 3, 4, 5, 6, 77), state(d, 1, 2, 3, 4, 5, 6, 77))
		for _, k := range []int{1, 2, 3} {
			c.Put(k, nil, true)
		}
		order(t, c, [2]int{1, 2})
		c.Flush()
		want(t, x.what+", behind other calls", same, x.keys)
	}
}

// R3: Dirty told twice, with others dirty in between, is two lists.
func TestResultsOfOneCacheShareNothing(t *testing.T) {
	c := of(t, 3, 1, 2, 3)
	first := c.Dirty()
	second := c.Dirty()
	scribble(first, 9)
	want(t, "Dirty", second, []int{1, 2, 3})
	written := c.Flush()
	c.Put(1, nil, true)
	c.Put(2, nil, true)
	again := c.Flush()
	scribble(again, 9)
	want(t, "Flush", written, []int{1, 2, 3})
	scribble(written, 9)
	c.Put(3, nil, true)
	want(t, "what is dirty then", c.Dirty(), []int{3})
}

// R3: nil bytes and empty ones are equivalent.
func TestNilAndEmptyAreEquivalent(t *testing.T) {
	for _, dirty := range []bool{false, true} {
		c, d := empty(t, 1), empty(t, 1)
		c.Put(1, nil, dirty)
		d.Put(1, []byte{}, dirty)
		want(t, "the state", state(c, 1), state(d, 1))
	}
}

// R4: with an error or false, every other result is its zero value, and nothing has changed.
func TestZeroValues(t *testing.T) {
	for _, room := range []int{0, -1, 1025, math.MinInt, math.MaxInt} {
		if c, errno := New(room); c != nil || errno == api.OK {
			t.Errorf("New(%d) = %v, %d", room, c, errno)
		}
	}
	c := ordered(t, 3, []int{1, 2}, [2]int{1, 2})
	c.Put(3, nil, false)
	before := state(c, 1, 2, 3, 4)
	if b, ok := c.Get(4); b != nil || ok {
		t.Errorf("Get(4) = %q, %v", b, ok)
	}
	for _, p := range [][2]int{{2, 1}, {1, 1}, {1, 3}, {3, 1}, {3, 3}, {4, 4}, {4, 1}, {1, 4}} {
		if errno := c.After(p[0], p[1]); errno == api.OK {
			t.Errorf("After(%d, %d) = OK", p[0], p[1])
		}
		want(t, fmt.Sprint("behind it ", p), state(c, 1, 2, 3, 4), before)
	}
	if written := c.Put(3, nil, true); !slices.Equal(written, nil) {
		t.Errorf("%v is written, and nothing goes", written)
	}
}
