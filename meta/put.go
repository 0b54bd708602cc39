package meta

import (
	"matryoshka/api"
	"matryoshka/field"
	"matryoshka/table"
)

// The bytes of the numbers of an encoding.
const (
	smallBytes  = 1 // Cluster, On, and how many shots and bitmaps there are
	numberBytes = 2 // all others
	totalBytes  = 4 // how many counts there are
)

// Put is the encoding of a meta.
func Put(m api.Meta) ([]byte, api.Errno) {
	if !Right(m) {
		return nil, api.ErrArg
	}
	return blobOf(encode(m))
}

// blobOf is b, if it is not too long for a blob.
func blobOf(b []byte) ([]byte, api.Errno) {
	if len(b) > api.MaxBlob {
		return nil, api.ErrLong
	}
	return b, api.OK
}

// encode is the bytes of a valid meta, of which every number fits its bytes, and every text and table has an encoding.
func encode(m api.Meta) []byte {
	b := appendNumber(nil, smallBytes, m.Cluster)
	b = appendNumber(b, numberBytes, m.Size)
	b = appendText(b, m.Back)
	b = appendTable(b, m.T, m.Cluster)
	b = appendNumber(b, smallBytes, len(m.Shots))
	for _, s := range m.Shots {
		b = appendText(b, s.Name)
		b = appendNumber(b, numberBytes, s.Size)
		b = appendTable(b, s.T, m.Cluster)
	}
	b = appendNumber(b, smallBytes, len(m.Maps))
	for _, bitmap := range m.Maps {
		b = appendBitmap(b, bitmap)
	}
	return appendCounts(b, m.Counts)
}

func appendNumber(b []byte, width, v int) []byte {
	// What field.Put is handed it copies, so it is handed nothing of what is encoded already.
	encoded, _ := field.Put(nil, width, false, uint64(v))
	return append(b, encoded...)
}

func appendText(b []byte, s string) []byte {
	encoded, _ := field.Text(nil, s)
	return append(b, encoded...)
}

func appendTable(b []byte, t api.Table, cluster int) []byte {
	encoded, _ := table.Put(t, cluster)
	return append(b, encoded...)
}

func appendBitmap(b []byte, bitmap api.Bitmap) []byte {
	b = appendText(b, bitmap.Name)
	on := 0
	if bitmap.On {
		on = 1
	}
	b = appendNumber(b, smallBytes, on)
	b = appendNumber(b, numberBytes, len(bitmap.L))
	for _, s := range bitmap.L {
		b = appendNumber(b, numberBytes, s.From)
		b = appendNumber(b, numberBytes, s.To)
	}
	return b
}

func appendCounts(b []byte, counts []int) []byte {
	b = appendNumber(b, totalBytes, len(counts))
	for len(counts) > 0 {
		length := runOf(counts)
		b = appendNumber(b, numberBytes, length)
		b = appendNumber(b, numberBytes, counts[0])
		counts = counts[length:]
	}
	return b
}

// runOf is how many of the counts, of which there is at least one, are in the first run.
func runOf(counts []int) int {
	length := 1
	for length < min(len(counts), maxNumber) && counts[length] == counts[0] {
		length++
	}
	return length
}
