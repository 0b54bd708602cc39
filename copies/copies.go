// Package copies: what an image knows, in new memory, so that what is written into a copy is seen nowhere else. See
// DOC.md, R3.
package copies

import (
	"slices"

	"matryoshka/api"
)

// Table is t in new memory.
func Table(t api.Table) api.Table {
	leaves := slices.Clone(t.L)
	for number, leaf := range leaves {
		leaves[number] = slices.Clone(leaf)
	}
	return api.Table{L: leaves}
}

// Shot is s in new memory.
func Shot(s api.Shot) api.Shot {
	s.T = Table(s.T)
	return s
}

// Bitmaps is l in new memory.
func Bitmaps(l []api.Bitmap) []api.Bitmap {
	out := slices.Clone(l)
	for i, b := range out {
		out[i].L = slices.Clone(b.L)
	}
	return out
}

// Meta is m in new memory.
func Meta(m api.Meta) api.Meta {
	m.T = Table(m.T)
	m.Shots = slices.Clone(m.Shots)
	for i, s := range m.Shots {
		m.Shots[i] = Shot(s)
	}
	m.Maps = Bitmaps(m.Maps)
	m.Counts = slices.Clone(m.Counts)
	return m
}
