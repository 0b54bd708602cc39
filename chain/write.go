package chain

import (
	"matryoshka/api"
	"matryoshka/image"
	"matryoshka/span"
)

// Write writes b to the sectors of the first image from sector at on.
func Write(l []*image.Image, at int, b []byte) api.Errno {
	if len(l) > 0 && len(b)%api.Sector != 0 {
		return api.ErrArg
	}
	return change(l, at, len(b)/api.Sector, func(levels []level, p api.Piece) api.Errno {
		part := b[:p.Count*api.Sector]
		b = b[len(part):]
		return put(levels, p, part)
	})
}

// Zero makes n sectors of the first image zeros, from sector at on.
func Zero(l []*image.Image, at, n int) api.Errno {
	return change(l, at, n, func(levels []level, p api.Piece) api.Errno {
		if levels[0].isWhole(p) {
			return levels[0].image.Zero(p.Cluster)
		}
		return put(levels, p, make([]byte, p.Count*api.Sector))
	})
}

// Discard makes the clusters zeros that lie wholly within n sectors of the first image, from sector at on.
func Discard(l []*image.Image, at, n int) api.Errno {
	return change(l, at, n, func(levels []level, p api.Piece) api.Errno {
		if levels[0].isWhole(p) {
			return levels[0].image.Zero(p.Cluster)
		}
		return api.OK
	})
}

// change changes the n sectors of the first image from sector at on, all of them or none, by one call of act for what of
// them lies in each cluster.
func change(l []*image.Image, at, n int, act func(levels []level, p api.Piece) api.Errno) (errno api.Errno) {
	levels, errno := levelsOf(l, "")
	if errno != api.OK {
		return errno
	}
	if !levels[0].has(at, n) {
		return api.ErrRange
	}
	end := l[0].Begin()
	defer func() { end(errno) }()
	// No image is larger than what can be split.
	pieces, _ := span.Split(at, n, levels[0].cluster)
	for _, p := range pieces {
		if errno := act(levels, p); errno != api.OK {
			return errno
		}
	}
	return api.OK
}

// put gives a cluster of the first image new contents: b is the sectors that p tells, and all others of the cluster stay
// what they show. Only these are read: what b replaces may have no contents any more.
func put(levels []level, p api.Piece, b []byte) api.Errno {
	top := levels[0]
	contents := make([]byte, api.Sector<<top.cluster)
	first, behind := p.Cluster<<top.cluster, p.At+p.Count
	if errno := show(levels, first, contents[:p.At*api.Sector]); errno != api.OK {
		return errno
	}
	copy(contents[p.At*api.Sector:], b)
	if errno := show(levels, first+behind, contents[behind*api.Sector:]); errno != api.OK {
		return errno
	}
	return top.image.Put(p.Cluster, contents)
}
