package image

import (
	"matryoshka/api"
	"matryoshka/copies"
	"matryoshka/count"
	"matryoshka/maps"
	"matryoshka/meta"
	"matryoshka/table"
)

// Turn makes m the meta of the current state.
func (i *Image) Turn(m api.Meta) api.Errno {
	if i == nil {
		return api.ErrNone
	}
	m.Counts = nil
	if !meta.Right(m) || !i.containsAll(m) {
		return api.ErrArg
	}
	i.become(copies.Meta(m))
	return api.OK
}

// containsAll tells whether the current state, or a shot of it, has each entry of m that occupies sectors.
func (i *Image) containsAll(m api.Meta) bool {
	contained := map[api.Entry]struct{}{}
	for _, line := range count.Each(i.current) {
		contained[line.E] = struct{}{}
	}
	for _, line := range count.Each(m) {
		if _, ok := contained[line.E]; !ok {
			return false
		}
	}
	return true
}

// Zero makes a cluster zeros.
func (i *Image) Zero(k int) api.Errno {
	return i.empty(k, api.EntryZero)
}

// Clear takes the contents of its own from a cluster.
func (i *Image) Clear(k int) api.Errno {
	return i.empty(k, api.EntryNone)
}

// empty gives a cluster an entry of a kind that has no sectors.
func (i *Image) empty(k, kind int) api.Errno {
	if i == nil {
		return api.ErrNone
	}
	if !i.hasCluster(k) {
		return api.ErrRange
	}
	i.give(k, api.Entry{Kind: kind})
	return api.OK
}

// Resize makes n the number of sectors.
func (i *Image) Resize(n int) api.Errno {
	if i == nil {
		return api.ErrNone
	}
	m := i.current
	if n < 0 || n > api.MaxDisk || n%(1<<m.Cluster) != 0 {
		return api.ErrArg
	}
	was, now := i.clusters(), n>>m.Cluster
	m.Size = n
	m.T = table.Cut(m.T, now)
	if m.Back != "" {
		// What stands below isn't to show through where the image has grown.
		m.T = withZeros(m.T, was, now)
	}
	m.Maps = maps.Size(m.Maps, was, now)
	i.become(m)
	return api.OK
}

// withZeros is t, which is changed, with EntryZero from one index on, below another; t has no other entries there, nor
// behind. (table.Set would copy the table for each index.)
func withZeros(t api.Table, from, to int) api.Table {
	for k := from; k < to; k++ {
		number := k / api.Fan
		for len(t.L) <= number {
			t.L = append(t.L, nil)
		}
		if len(t.L[number]) == 0 {
			t.L[number] = make([]api.Entry, api.Fan)
		}
		t.L[number][k%api.Fan] = api.Entry{Kind: api.EntryZero}
	}
	return t
}
