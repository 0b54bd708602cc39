package disk

import (
	"slices"

	"matryoshka/api"
)

// record is a sector write that is not durable. Its number is how many sectors the disk had written with it; the
// numbers order the writes of all files.
type record struct {
	number uint64
	sector int
	data   [api.Sector]byte
}

// file is the sectors of a file: those that are read now, and those that are durable. All that the first have more
// than the second are the writes, and sectors of zeros.
type file struct {
	name    string
	now     []byte
	durable []byte
	writes  []record // in the order in which they were made
}

// size is the number of sectors that the file has now.
func (f *file) size() int {
	return len(f.now) / api.Sector
}

// write writes a sector.
func (f *file) write(r record) {
	f.now = put(f.now, r)
	f.writes = append(f.writes, r)
}

// cut removes all sectors but the first n, from what is durable too.
func (f *file) cut(n int) {
	end := n * api.Sector
	f.now = f.now[:end]
	f.durable = f.durable[:min(end, len(f.durable))]
	f.writes = slices.DeleteFunc(f.writes, func(r record) bool {
		return r.sector >= n
	})
}

// flush makes durable what the file has now.
func (f *file) flush() {
	for _, r := range f.writes {
		f.keep(r)
	}
	// A file may end with zeros that no write stands behind any more, since it was cut.
	f.durable = grow(f.durable, f.size())
	f.writes = nil
}

// keep makes a sector write durable.
func (f *file) keep(r record) {
	f.durable = put(f.durable, r)
}

// fall leaves nothing but what is durable.
func (f *file) fall() {
	f.now = slices.Clone(f.durable)
	f.writes = nil
}

// copy is an independent file in the same state.
func (f *file) copy() *file {
	return &file{
		name:    f.name,
		now:     slices.Clone(f.now),
		durable: slices.Clone(f.durable),
		writes:  slices.Clone(f.writes),
	}
}

// put is the sectors of b, with one of them written.
func put(b []byte, r record) []byte {
	b = grow(b, r.sector+1)
	copy(b[r.sector*api.Sector:], r.data[:])
	return b
}

// grow is the sectors of b, and zeros behind them if they are fewer than n.
func grow(b []byte, n int) []byte {
	return append(b, make([]byte, max(0, n*api.Sector-len(b)))...)
}
