package meta

import (
	"matryoshka/api"
	"matryoshka/field"
	"matryoshka/table"
)

// Get is the meta whose encoding is exactly b.
func Get(b []byte) (m api.Meta, errno api.Errno) {
	defer func() {
		if recover() != nil {
			m, errno = api.Meta{}, api.ErrForm
		}
	}()
	insist(len(b) <= api.MaxBlob)
	r := reader{b: b}
	m = r.meta()
	insist(r.at == len(b) && Right(m))
	return m, api.OK
}

// insist gives up by a panic, which Get recovers, if what is read can't be an encoding.
func insist(ok bool) {
	if !ok {
		panic(api.ErrForm)
	}
}

// reader reads an encoding from its first byte on. It gives up where Put writes the same in another way; whether what
// it has read is valid is left to Right.
type reader struct {
	b  []byte
	at int // what is ahead of it has been read
}

func (r *reader) meta() api.Meta {
	m := api.Meta{Cluster: r.number(smallBytes), Size: r.number(numberBytes), Back: r.text()}
	m.T = r.table(m.Size, m.Cluster)
	for range r.number(smallBytes) {
		m.Shots = append(m.Shots, r.shot(m.Cluster))
	}
	for range r.number(smallBytes) {
		m.Maps = append(m.Maps, r.bitmap())
	}
	m.Counts = r.counts()
	return m
}

func (r *reader) number(width int) int {
	v, errno := field.Get(r.b, r.at, width, false)
	insist(errno == api.OK)
	r.at += width
	return int(v)
}

// numberUpTo is a number that is at most another one.
func (r *reader) numberUpTo(most, width int) int {
	n := r.number(width)
	insist(isWithin(n, 0, most))
	return n
}

func (r *reader) text() string {
	s, behind, errno := field.Read(r.b, r.at)
	insist(errno == api.OK)
	r.at = behind
	return s
}

// table is one for this many sectors.
func (r *reader) table(size, cluster int) api.Table {
	t, behind, errno := table.Read(r.b, r.at, size>>cluster, cluster)
	insist(errno == api.OK)
	r.at = behind
	return t
}

func (r *reader) shot(cluster int) api.Shot {
	s := api.Shot{Name: r.text(), Size: r.number(numberBytes)}
	s.T = r.table(s.Size, cluster)
	return s
}

func (r *reader) bitmap() api.Bitmap {
	b := api.Bitmap{Name: r.text(), On: r.numberUpTo(1, smallBytes) == 1}
	for range r.number(numberBytes) {
		b.L = append(b.L, api.Span{From: r.number(numberBytes), To: r.number(numberBytes)})
	}
	return b
}

func (r *reader) counts() []int {
	// Few bytes may tell of very many counts, so that Right would come too late.
	total := r.numberUpTo(api.MaxFile, totalBytes)
	var counts []int
	run := 0
	for len(counts) < total {
		length, n := r.numberUpTo(total-len(counts), numberBytes), r.number(numberBytes)
		// A run is as long as possible: no other one of the same count follows it, unless it is as long as any may be.
		insist(length > 0 && (run == 0 || run == maxNumber || counts[len(counts)-1] != n))
		for range length {
			counts = append(counts, n)
		}
		run = length
	}
	return counts
}
