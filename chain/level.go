package chain

import (
	"matryoshka/api"
	"matryoshka/image"
)

// level is one image of a chain, or a shot of it, and its measures.
type level struct {
	image    *image.Image
	shot     string // empty, if it is the image itself
	measured bool
	cluster  int
	size     int
}

// levelsOf is the levels of a chain, which begins with a shot of its first image if a name is given.
func levelsOf(l []*image.Image, shot string) ([]level, api.Errno) {
	if len(l) == 0 {
		return nil, api.ErrNone
	}
	levels := make([]level, len(l))
	for k, i := range l {
		levels[k].image = i
	}
	levels[0].shot = shot
	if !levels[0].measure() {
		return nil, api.ErrName
	}
	return levels, api.OK
}

// measure takes the measures from the meta of the image; false if there is no such shot. A meta is copied as a whole,
// and most images of a chain are not reached, so that each is asked once, when it is reached.
func (v *level) measure() bool {
	if v.measured {
		return true
	}
	m := v.image.Meta()
	v.cluster = m.Cluster
	v.size, v.measured = sizeOf(m, v.shot)
	return v.measured
}

// sizeOf is the number of sectors of an image, or of its shot of a name that is not empty; false if there is none.
func sizeOf(m api.Meta, shot string) (int, bool) {
	if shot == "" {
		return m.Size, true
	}
	for _, s := range m.Shots {
		if s.Name == shot {
			return s.Size, true
		}
	}
	return 0, false
}

// has tells whether the n sectors from sector at on are all within a level.
func (v *level) has(at, n int) bool {
	return at >= 0 && n >= 0 && n <= v.size-at
}

// isWhole tells whether p is all sectors of a cluster.
func (v *level) isWhole(p api.Piece) bool {
	return p.Count == 1<<v.cluster
}
