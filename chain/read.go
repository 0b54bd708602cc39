package chain

import (
	"matryoshka/api"
	"matryoshka/image"
	"matryoshka/span"
)

// Read is the bytes of n sectors from sector at on, as the first image shows them, or a shot of it.
func Read(l []*image.Image, shot string, at, n int) ([]byte, api.Errno) {
	levels, errno := levelsOf(l, shot)
	if errno != api.OK {
		return nil, errno
	}
	return read(levels, at, n)
}

// Cluster is the bytes of a cluster, as the first image shows it, or a shot of it.
func Cluster(l []*image.Image, shot string, k int) ([]byte, api.Errno) {
	levels, errno := levelsOf(l, shot)
	if errno != api.OK {
		return nil, errno
	}
	top := levels[0]
	if k < 0 || k >= top.size>>top.cluster {
		return nil, api.ErrRange
	}
	return read(levels, k<<top.cluster, 1<<top.cluster)
}

// read is the bytes of n sectors from sector at on.
func read(levels []level, at, n int) ([]byte, api.Errno) {
	if !levels[0].has(at, n) {
		return nil, api.ErrRange
	}
	b := make([]byte, n*api.Sector)
	if errno := show(levels, at, b); errno != api.OK {
		return nil, errno
	}
	return b, api.OK
}

// show fills b, which is zeros, with what the sectors from sector at on show. Those that are not within the first level
// remain zeros, also if a level below has them.
func show(levels []level, at int, b []byte) api.Errno {
	if len(levels) == 0 {
		return api.OK
	}
	top := &levels[0]
	top.measure()
	n := max(0, min(len(b)/api.Sector, top.size-at))
	// No image is larger than what can be split.
	pieces, _ := span.Split(at, n, top.cluster)
	for _, p := range pieces {
		part := b[:p.Count*api.Sector]
		b = b[len(part):]
		own, kind, errno := top.image.Own(top.shot, p.Cluster)
		switch {
		case errno == api.OK && kind == api.EntryNone:
			errno = show(levels[1:], p.Cluster<<top.cluster+p.At, part)
		case errno == api.OK:
			copy(part, own[p.At*api.Sector:])
		}
		if errno != api.OK {
			return errno
		}
	}
	return api.OK
}
