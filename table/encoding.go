package table

import (
	"matryoshka/api"
	"matryoshka/entry"
	"matryoshka/field"
)

const (
	numberBytes = 2
	entryBytes  = 16
	leafBytes   = numberBytes + api.Fan*entryBytes
	maxLeaves   = api.MaxDisk / api.Fan
)

// Put is the encoding of a table.
func Put(t api.Table, cluster int) ([]byte, api.Errno) {
	if !Right(t, api.MaxDisk, cluster) {
		return nil, api.ErrArg
	}
	count := 0
	var leaves []byte
	for number, leaf := range t.L {
		if !isAbsent(leaf) {
			count++
			leaves = appendLeaf(leaves, number, leaf, cluster)
		}
	}
	return append(encodeNumber(count), leaves...), api.OK
}

// Read is the table, valid for n clusters, whose encoding stands at an offset of b, and the offset behind it.
func Read(b []byte, at, n, cluster int) (api.Table, int, api.Errno) {
	count, errno := field.Get(b, at, numberBytes, false)
	if errno != api.OK {
		return api.Table{}, 0, api.ErrForm
	}
	behind := at + numberBytes
	var t api.Table
	for range count {
		number, leaf, errno := readLeaf(b, behind, cluster)
		// The leaves up to here have the numbers below this length.
		if errno != api.OK || !isWithin(number, len(t.L), maxLeaves-1) {
			return api.Table{}, 0, api.ErrForm
		}
		for len(t.L) < number {
			t.L = append(t.L, nil)
		}
		t.L = append(t.L, leaf)
		behind += leafBytes
	}
	// What ascends may still have a blank leaf, or an entry from index n on.
	if !Right(t, n, cluster) {
		return api.Table{}, 0, api.ErrForm
	}
	return t, behind, api.OK
}

// encodeNumber is a number of a valid table, which always fits its bytes.
func encodeNumber(v int) []byte {
	encoded, _ := field.Put(nil, numberBytes, false, uint64(v))
	return encoded
}

// appendLeaf appends a leaf of a valid table, whose entries all have an encoding.
func appendLeaf(b []byte, number int, leaf []api.Entry, cluster int) []byte {
	b = append(b, encodeNumber(number)...)
	for _, e := range leaf {
		encoded, _ := entry.Put(e, cluster)
		b = append(b, encoded...)
	}
	return b
}

// readLeaf is the number and the entries of the leaf that is encoded at an offset of b, which is not beyond its end.
func readLeaf(b []byte, at, cluster int) (int, []api.Entry, api.Errno) {
	if len(b)-at < leafBytes {
		return 0, nil, api.ErrForm
	}
	number, errno := field.Get(b, at, numberBytes, false)
	if errno != api.OK {
		return 0, nil, errno
	}
	leaf := make([]api.Entry, api.Fan)
	for i := range leaf {
		from := at + numberBytes + i*entryBytes
		e, errno := entry.Get(b[from:from+entryBytes], cluster)
		if errno != api.OK {
			return 0, nil, errno
		}
		leaf[i] = e
	}
	return int(number), leaf, api.OK
}
