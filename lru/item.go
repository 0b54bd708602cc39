package lru

import (
	"bytes"
	"cmp"
	"slices"
)

// item is a key and what is kept of it.
type item struct {
	key    int
	bytes  []byte
	used   uint64 // the number of its last use
	dirty  bool
	firsts []int // the dirty keys that it is ordered after, in the order in which they were recorded
}

// copy is an independent item in the same state.
func (it *item) copy() *item {
	return &item{
		key:    it.key,
		bytes:  bytes.Clone(it.bytes),
		used:   it.used,
		dirty:  it.dirty,
		firsts: slices.Clone(it.firsts),
	}
}

// place is where the item of a key is among the items, or would be.
func (c *Cache) place(k int) (int, bool) {
	return slices.BinarySearchFunc(c.items, k, func(it *item, k int) int {
		return cmp.Compare(it.key, k)
	})
}

// find is the item of a key, nil if there is none.
func (c *Cache) find(k int) *item {
	if c == nil {
		return nil
	}
	at, found := c.place(k)
	if !found {
		return nil
	}
	return c.items[at]
}

// remove removes the item of a key that is there.
func (c *Cache) remove(k int) {
	at, _ := c.place(k)
	c.items = slices.Delete(c.items, at, at+1)
}

func (c *Cache) isDirty(k int) bool {
	it := c.find(k)
	return it != nil && it.dirty
}

// evict removes the least recently used key, and tells the keys that must be written before.
func (c *Cache) evict() []int {
	oldest := slices.MinFunc(c.items, func(a, b *item) int {
		return cmp.Compare(a.used, b.used)
	})
	var written []int
	if oldest.dirty {
		written = c.write(oldest.key)
	}
	c.remove(oldest.key)
	return written
}

// write is the lines of dirty keys, which are dirty no more, nor are any others of the lines.
func (c *Cache) write(keys ...int) []int {
	written := c.lines(keys...)
	for _, k := range written {
		c.find(k).dirty = false
	}
	c.endRecords()
	return written
}

// lines is the lines of dirty keys, one behind the other, each key at most once.
func (c *Cache) lines(keys ...int) []int {
	var all []int
	met := map[int]struct{}{}
	var add func(k int)
	add = func(k int) {
		if _, ok := met[k]; ok {
			return
		}
		met[k] = struct{}{}
		for _, first := range c.find(k).firsts {
			add(first)
		}
		all = append(all, k)
	}
	for _, k := range keys {
		add(k)
	}
	return all
}

// endRecords forgets the records that speak of keys that are not dirty any more, or not there. A key that was written
// is ordered after none, since all that it was ordered after was written with it.
func (c *Cache) endRecords() {
	for _, it := range c.items {
		it.firsts = slices.DeleteFunc(it.firsts, func(first int) bool {
			return !c.isDirty(first)
		})
	}
}
