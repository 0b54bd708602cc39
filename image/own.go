package image

import (
	"bytes"
	"slices"

	"matryoshka/api"
	"matryoshka/check"
	"matryoshka/entry"
	"matryoshka/table"
)

// Own is the contents of a cluster, without what stands below the image, and the kind of its entry.
func (i *Image) Own(shot string, k int) ([]byte, int, api.Errno) {
	if errno := i.ready(); errno != api.OK {
		return nil, 0, errno
	}
	t, clusters, ok := i.tableOf(shot)
	if !ok {
		return nil, 0, api.ErrName
	}
	if k < 0 || k >= clusters {
		return nil, 0, api.ErrRange
	}
	e := table.Get(t, k)
	b, errno := i.contents(e)
	if errno != api.OK {
		return nil, 0, api.ErrSum
	}
	return b, e.Kind, api.OK
}

// tableOf is the table of the current state, or of its shot of a name that is not empty, and how many clusters it is
// for; false if there is no such shot.
func (i *Image) tableOf(shot string) (api.Table, int, bool) {
	if shot == "" {
		return i.current.T, i.clusters(), true
	}
	for _, s := range i.current.Shots {
		if s.Name == shot {
			return s.T, s.Size >> i.current.Cluster, true
		}
	}
	return api.Table{}, 0, false
}

// contents is the contents of the cluster that e describes.
func (i *Image) contents(e api.Entry) ([]byte, api.Errno) {
	if !hasSectors(e) {
		return check.Bytes(e, nil, i.current.Cluster)
	}
	stored, errno := i.disk.Read(i.name, e.Start, e.Count)
	if errno != api.OK {
		return nil, errno
	}
	// The contents hang on nothing but this. What was read is never taken for what others have written since.
	source := sourceOf(e, stored, i.current.Cluster)
	if kept, ok := i.read.Get(e.Start); ok && bytes.HasPrefix(kept, source) {
		return kept[len(source):], api.OK
	}
	b, errno := bytesOf(e, stored, i.current.Cluster)
	if errno != api.OK {
		return nil, errno
	}
	i.read.Put(e.Start, slices.Concat(source, b), false)
	return b, api.OK
}

// sourceOf is all that the contents of e hang on: the size of a cluster, the entry, and what its sectors hold. Of two
// sources that differ none is the beginning of the other, since both tell how long they are.
func sourceOf(e api.Entry, stored []byte, cluster int) []byte {
	// The entries of a state are valid, and have an encoding.
	encoded, _ := entry.Put(e, cluster)
	return slices.Concat([]byte{byte(cluster)}, encoded, stored)
}

// bytesOf is what check.Bytes tells of e and of a file whose sectors of e hold what is stored. It needs no more of the
// file than these.
func bytesOf(e api.Entry, stored []byte, cluster int) ([]byte, api.Errno) {
	e.Start = slotSectors
	return check.Bytes(e, slices.Concat(make([]byte, slotSectors*api.Sector), stored), cluster)
}

// hasSectors tells whether e is of a kind whose entries occupy sectors.
func hasSectors(e api.Entry) bool {
	return e.Kind == api.EntryRaw || e.Kind == api.EntryPacked
}
