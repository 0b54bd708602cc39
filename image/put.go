package image

import (
	"bytes"
	"slices"

	"matryoshka/api"
	"matryoshka/crc"
	"matryoshka/lz"
	"matryoshka/maps"
	"matryoshka/table"
)

// Put gives a cluster contents of its own.
func (i *Image) Put(k int, b []byte) api.Errno {
	if errno := i.ready(); errno != api.OK {
		return errno
	}
	switch {
	case !i.hasCluster(k):
		return api.ErrRange
	case len(b) != api.Sector<<i.current.Cluster:
		return api.ErrArg
	}
	e, errno := i.entryFor(b)
	if errno != api.OK {
		return errno
	}
	i.give(k, e)
	return api.OK
}

// give makes e, which is a valid entry, that of a cluster, of which it is on record then that it has changed.
func (i *Image) give(k int, e api.Entry) {
	released := table.Get(i.current.T, k)
	i.current.T = table.Set(i.current.T, k, e)
	i.current.Maps = maps.Touch(i.current.Maps, api.Span{From: k, To: k + 1})
	i.changed = true
	i.countEntries(e, released)
}

// entryFor is the entry of a cluster with the contents b, which are written to the file unless it has them.
func (i *Image) entryFor(b []byte) (api.Entry, api.Errno) {
	if isZero(b) {
		return api.Entry{Kind: api.EntryZero}, api.OK
	}
	if e, ok := i.knownEntry(b); ok {
		return e, api.OK
	}
	return i.store(b)
}

func isZero(b []byte) bool {
	for _, c := range b {
		if c != 0 {
			return false
		}
	}
	return true
}

// knownEntry is the first entry that the index finds for b, that is in use, and whose contents are b indeed.
func (i *Image) knownEntry(b []byte) (api.Entry, bool) {
	for _, e := range i.known.Find(b) {
		if !i.contains(e) {
			continue
		}
		if contents, errno := i.contents(e); errno == api.OK && bytes.Equal(contents, b) {
			return e, true
		}
	}
	return api.Entry{}, false
}

// contains tells whether the current state, or a shot of it, has the entry e.
func (i *Image) contains(e api.Entry) bool {
	return hasEntry(i.current.T, e) || slices.ContainsFunc(i.current.Shots, func(s api.Shot) bool {
		return hasEntry(s.T, e)
	})
}

func hasEntry(t api.Table, e api.Entry) bool {
	return slices.ContainsFunc(t.L, func(leaf []api.Entry) bool {
		return slices.Contains(leaf, e)
	})
}

// store writes the contents b to sectors that are free, and is the entry of these.
func (i *Image) store(b []byte) (api.Entry, api.Errno) {
	e, sectors := encoded(b, i.current.Cluster)
	start, ok := i.place(e.Count)
	if !ok {
		return api.Entry{}, api.ErrSpace
	}
	if errno := i.disk.Write(i.name, start, sectors); errno != api.OK {
		return api.Entry{}, errno
	}
	e.Start = start
	i.known.Add(b, e)
	return e, api.OK
}

// encoded is an entry for the contents b, which has no place yet, and what its sectors are to hold.
func encoded(b []byte, cluster int) (api.Entry, []byte) {
	sum := crc.Sum(b)
	packed := lz.Pack(b)
	sectors := sectorsOf(len(packed))
	if sectors >= 1<<cluster {
		return api.Entry{Kind: api.EntryRaw, Count: 1 << cluster, Sum: sum}, b
	}
	whole := append(packed, make([]byte, sectors*api.Sector-len(packed))...)
	return api.Entry{Kind: api.EntryPacked, Count: sectors, Size: len(packed), Sum: sum}, whole
}
