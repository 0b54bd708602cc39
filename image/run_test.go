package image_test

import (
	"bytes"
	"fmt"
	"math/rand"
	"slices"
	"testing"

	"matryoshka/api"
	"matryoshka/crc"
	"matryoshka/disk"
	"matryoshka/file"
	"matryoshka/image"
	"matryoshka/lz"
	"matryoshka/maps"
	"matryoshka/meta"
	"matryoshka/shots"
)

// cell is a cluster of the model: its entry, and the contents that were put last.
type cell struct {
	e api.Entry
	b []byte
}

// modelShot is clusters under a name; those of the image itself have none.
type modelShot struct {
	name  string
	cells []cell
}

// modelState is a state. No list of it is ever written into.
type modelState struct {
	cluster int
	back    string
	own     []cell
	shots   []modelShot
	maps    []api.Bitmap
}

// known is a pair of the model's index.
type known struct {
	contents string
	e        api.Entry
}

// model does what chapter 17 says, word by word, on a disk of its own.
type model struct {
	d            *disk.Disk
	now, flushed modelState
	last         api.Slot
	changed      bool
	index        []known
}

// cells are all clusters of a state, those of its shots too.
func (s modelState) cells() []cell {
	all := slices.Clone(s.own)
	for _, x := range s.shots {
		all = append(all, x.cells...)
	}
	return slices.DeleteFunc(all, func(x cell) bool { return x.e.Kind < api.EntryRaw })
}

func tableOfCells(l []cell) api.Table {
	var entries []api.Entry
	for _, x := range l {
		entries = append(entries, x.e)
	}
	return tableOf(entries...)
}

// meta is the meta of a state; its counts are for a file of so many sectors.
func (s modelState) meta(sectors int) api.Meta {
	m := api.Meta{Cluster: s.cluster, Size: len(s.own) << s.cluster, Back: s.back, T: tableOfCells(s.own), Maps: s.maps, Counts: make([]int, sectors)}
	for _, x := range s.shots {
		m.Shots = append(m.Shots, api.Shot{Name: x.name, Size: len(x.cells) << s.cluster, T: tableOfCells(x.cells)})
	}
	copy(m.Counts, []int{1, 1})
	for _, x := range s.cells() {
		for sector := x.e.Start; sector < min(x.e.Start+x.e.Count, sectors); sector++ {
			m.Counts[sector]++
		}
	}
	return m
}

func (x *model) meta() api.Meta {
	sectors, _ := x.d.Size("f")
	return x.now.meta(sectors)
}

// used tells which sectors are in use.
func (x *model) used() map[int]bool {
	used := map[int]bool{}
	for _, c := range append(x.now.cells(), x.flushed.cells()...) {
		for n := range c.e.Count {
			used[c.e.Start+n] = true
		}
	}
	for n := range (x.last.Count + 15) / 16 {
		used[x.last.Start+n] = true
	}
	return used
}

// place is the first of n sectors from 2 on that are not in use; 0 if there are none.
func (x *model) place(n int) int {
	used := x.used()
next:
	for s := 2; s+n <= api.MaxFile; s++ {
		for k := range n {
			if used[s+k] {
				continue next
			}
		}
		return s
	}
	return 0
}

func (x *model) dead() bool {
	_, errno := x.d.Read("f", 0, 0)
	return errno == api.ErrDead
}

func (x *model) put(k int, b []byte) api.Errno {
	switch {
	case x.dead():
		return api.ErrDead
	case k < 0 || k >= len(x.now.own):
		return api.ErrRange
	case len(b) != 16<<x.now.cluster:
		return api.ErrArg
	}
	if bytes.Equal(b, make([]byte, len(b))) {
		x.give(k, cell{api.Entry{Kind: api.EntryZero}, b})
		return api.OK
	}
	for _, pair := range x.index {
		if pair.contents == string(b) && slices.ContainsFunc(x.now.cells(), func(c cell) bool { return c.e == pair.e && bytes.Equal(c.b, b) }) {
			x.give(k, cell{pair.e, b})
			return api.OK
		}
	}
	e, stored := api.Entry{Kind: api.EntryRaw, Count: 1 << x.now.cluster, Sum: crc.Sum(b)}, b
	if p := lz.Pack(b); (len(p)+15)/16 < e.Count {
		e.Kind, e.Count, e.Size = api.EntryPacked, (len(p)+15)/16, len(p)
		stored = append(p, make([]byte, e.Count*16-len(p))...)
	}
	e.Start = x.place(e.Count)
	if e.Start == 0 {
		return api.ErrSpace
	}
	if errno := x.d.Write("f", e.Start, stored); errno != api.OK {
		return errno
	}
	x.learn(known{string(b), e})
	x.give(k, cell{e, b})
	return api.OK
}

func (x *model) learn(pair known) {
	if slices.Contains(x.index, pair) {
		return
	}
	x.index = append(x.index, pair)
	if len(x.index) > 64 {
		x.index = x.index[1:]
	}
}

// give gives a cluster an entry.
func (x *model) give(k int, c cell) {
	x.now.own = slices.Clone(x.now.own)
	x.now.own[k] = c
	x.now.maps = maps.Touch(x.now.maps, api.Span{From: k, To: k + 1})
	x.changed = true
}

func (x *model) empty(k, kind int) api.Errno {
	if k < 0 || k >= len(x.now.own) {
		return api.ErrRange
	}
	x.give(k, cell{api.Entry{Kind: kind}, make([]byte, 16<<x.now.cluster)})
	return api.OK
}

func (x *model) resize(n int) api.Errno {
	if n < 0 || n > 4096 || n%(1<<x.now.cluster) != 0 {
		return api.ErrArg
	}
	was, now := len(x.now.own), n>>x.now.cluster
	x.now.own = slices.Clone(x.now.own[:min(was, now)])
	for len(x.now.own) < now {
		c := cell{b: make([]byte, 16<<x.now.cluster)}
		if x.now.back != "" {
			c.e.Kind = api.EntryZero
		}
		x.now.own = append(x.now.own, c)
	}
	x.now.maps = maps.Size(x.now.maps, was, now)
	x.changed = true
	return api.OK
}

func (x *model) turn(m api.Meta) api.Errno {
	m.Counts = nil
	if !meta.Right(m) {
		return api.ErrArg
	}
	had := x.now.cells()
	ok := true
	cells := func(t api.Table, size int) []cell {
		var l []cell
		for k := range size >> m.Cluster {
			c := cell{b: make([]byte, 16<<m.Cluster)}
			if k/8 < len(t.L) && len(t.L[k/8]) > 0 {
				c.e = t.L[k/8][k%8]
			}
			if c.e.Kind >= api.EntryRaw {
				at := slices.IndexFunc(had, func(o cell) bool { return o.e == c.e })
				if at < 0 {
					ok = false
					return nil
				}
				c = had[at]
			}
			l = append(l, c)
		}
		return l
	}
	next := modelState{cluster: m.Cluster, back: m.Back, own: cells(m.T, m.Size), maps: maps.Touch(m.Maps, api.Span{})}
	for _, s := range m.Shots {
		next.shots = append(next.shots, modelShot{s.Name, cells(s.T, s.Size)})
	}
	if !ok {
		return api.ErrArg
	}
	x.now, x.changed = next, true
	return api.OK
}

func (x *model) flush() api.Errno {
	if x.dead() {
		return api.ErrDead
	}
	if !x.changed {
		return api.OK
	}
	kept := make([]int, api.MaxFile)
	for _, c := range append(x.now.cells(), x.flushed.cells()...) {
		for n := range c.e.Count {
			kept[c.e.Start+n]++
		}
	}
	s, errno := file.Save(x.d, "f", x.now.meta(0), x.last, kept)
	if errno == api.OK {
		x.flushed, x.last, x.changed = x.now, s, false
	}
	return errno
}

func (x *model) shared() int {
	cells, shared := x.now.cells(), 0
	for n, c := range cells {
		if slices.ContainsFunc(cells[:n], func(o cell) bool { return o.e.Start == c.e.Start }) {
			shared++
		}
	}
	return shared
}

// pair is an image and its model, which are called alike.
type pair struct {
	t *testing.T
	d *disk.Disk
	i *image.Image
	m *model
	r *rand.Rand
}

// newPair is a new image and its model.
func newPair(t *testing.T, r *rand.Rand, room int) *pair {
	cluster, size, back := r.Intn(4), r.Intn(20), []string{"", "base"}[r.Intn(2)]
	p := &pair{t: t, d: diskOf(t, room), r: r}
	i, errno := image.Create(p.d, "f", cluster, size<<cluster, back)
	must(t, "Create", errno)
	p.i = i
	_, last, errno := file.Load(p.d, "f")
	must(t, "file.Load", errno)
	s := modelState{cluster: cluster, back: back, own: slices.Repeat([]cell{{b: make([]byte, 16<<cluster)}}, size)}
	p.m = &model{d: p.d.Copy(), now: s, flushed: s, last: last}
	return p
}

// check is that the image and its model show the same.
func (p *pair) check(what string) {
	t := p.t
	t.Helper()
	m := p.i.Meta()
	want(t, what+": the meta", m, p.m.meta())
	want(t, what+": Changed", p.i.Changed(), p.m.changed)
	want(t, what+": Shared", p.i.Shared(), p.m.shared())
	want(t, what+": Used", p.d.Used(), p.m.d.Used())
	if p.m.dead() {
		return
	}
	want(t, what+": the bytes", bytes.Equal(bytesOf(t, p.d), bytesOf(t, p.m.d)), true)
	p.checkCells(what, "", p.m.now.own)
	for _, s := range p.m.now.shots {
		p.checkCells(what, s.name, s.cells)
	}
}

// checkCells is that Own returns the contents of all these clusters, and of no other one.
func (p *pair) checkCells(what, shot string, cells []cell) {
	p.t.Helper()
	for k, c := range cells {
		b, kind, errno := p.i.Own(shot, k)
		if errno != api.OK || kind != c.e.Kind || !bytes.Equal(b, c.b) {
			checkOwn(p.t, what, p.i, shot, k, c.b, c.e.Kind, api.OK)
		}
	}
	checkOwn(p.t, what, p.i, shot, len(cells), nil, 0, api.ErrRange)
}

// call calls the image and its model alike, and tells the error.
func (p *pair) call() api.Errno {
	r, i, m := p.r, p.i, p.m
	k := r.Intn(len(m.now.own)+2) - r.Intn(2)
	var what string
	var got, wanted api.Errno
	switch n := r.Intn(40); {
	case n < 20:
		b := p.anyContents()
		what, got, wanted = fmt.Sprintf("Put(%d, %x)", k, b), i.Put(k, b), m.put(k, b)
	case n < 22:
		what, got, wanted = fmt.Sprintf("Zero(%d)", k), i.Zero(k), m.empty(k, api.EntryZero)
	case n < 25:
		what, got, wanted = fmt.Sprintf("Clear(%d)", k), i.Clear(k), m.empty(k, api.EntryNone)
	case n < 28:
		size := (r.Intn(24) - 1) << m.now.cluster
		if r.Intn(5) == 0 {
			size = r.Intn(100) - 5
		}
		what, got, wanted = fmt.Sprintf("Resize(%d)", size), i.Resize(size), m.resize(size)
	case n < 35:
		x := p.anyMeta()
		what, got, wanted = fmt.Sprintf("Turn(%+v)", x), i.Turn(x), m.turn(x)
	default:
		what, got, wanted = "Flush", i.Flush(), m.flush()
	}
	want(p.t, what, got, wanted)
	p.check(what)
	return got
}

// anyContents are a cluster of few kinds, or of a wrong length.
func (p *pair) anyContents() []byte {
	cluster, seed := p.m.now.cluster, p.r.Intn(100)
	switch p.r.Intn(12) {
	case 0:
		return make([]byte, 16<<cluster)
	case 1:
		return noise(p.r.Intn(40), 1)
	case 2, 3, 4:
		return small(cluster, seed%7)
	case 5:
		n := p.r.Intn(16<<cluster) + 1
		return append(noise(n, seed), make([]byte, 16<<cluster-n)...)
	case 6, 7, 8:
		return big(cluster, seed)
	}
	return big(cluster, seed%7)
}

// anyMeta is what may be made of the meta of the image, or may not.
func (p *pair) anyMeta() api.Meta {
	r, m := p.r, p.m.meta()
	name := fmt.Sprint("n", r.Intn(4))
	var made api.Meta
	errno := api.OK
	switch r.Intn(9) {
	case 0, 1:
		made, errno = shots.Add(m, name)
	case 2, 3:
		made, errno = shots.Drop(m, name)
	case 4:
		made, errno = shots.Back(m, name)
	case 5:
		made = m
		made.Maps, errno = maps.Add(m.Maps, name)
	case 6:
		made = m
		made.Maps, errno = maps.Turn(m.Maps, name, r.Intn(2) == 0)
	case 7:
		// What the flushed state has, which the current one may have lost.
		made = p.m.flushed.meta(0)
	default:
		made = p.moved(m)
	}
	if errno != api.OK {
		return m
	}
	return made
}

// moved is m with its entries in another order, one of which may be turned into another one.
func (p *pair) moved(m api.Meta) api.Meta {
	var entries []api.Entry
	for _, c := range p.m.now.own {
		entries = append(entries, c.e)
	}
	p.r.Shuffle(len(entries), func(a, b int) { entries[a], entries[b] = entries[b], entries[a] })
	if len(entries) > 0 && p.r.Intn(2) == 0 {
		e := &entries[p.r.Intn(len(entries))]
		switch p.r.Intn(4) {
		case 0:
			e.Start++
		case 1:
			e.Sum++
		case 2:
			e.Kind = p.r.Intn(5)
		}
	}
	m.T = tableOf(entries...)
	return m
}

// reopen opens the image again, as its model has been flushed.
func (p *pair) reopen(what string, s modelState) {
	p.t.Helper()
	i := opened(p.t, p.d)
	_, last, errno := file.Load(p.d, "f")
	must(p.t, what, errno)
	p.i = i
	p.m = &model{d: p.m.d, now: s, flushed: s, last: last}
	p.check(what)
}

// 17.1 to 17.5: any calls, held against the model; with much room, and with little.
func TestAnyRun(t *testing.T) {
	answers := map[api.Errno]int{}
	for seed := range 120 {
		p := newPair(t, rand.New(rand.NewSource(int64(seed))), []int{room, 60, 150, 400}[seed%4])
		for range 120 {
			answers[p.call()]++
			if p.r.Intn(50) == 0 {
				p.d.Crash(nil)
				p.m.d.Crash(nil)
				p.reopen("opened", p.m.flushed)
			}
		}
	}
	for _, errno := range []api.Errno{api.OK, api.ErrArg, api.ErrRange, api.ErrSpace} {
		want(t, fmt.Sprint("whether there were answers ", errno), answers[errno] > 100, true)
	}
}

// 17.1 to 17.5: any calls, while the power fails now and then.
func TestAnyRunWithCrashes(t *testing.T) {
	falls := 0
	for seed := range 80 {
		p := newPair(t, rand.New(rand.NewSource(int64(1000+seed))), []int{room, 150}[seed%2])
		for range 150 {
			if p.r.Intn(8) == 0 {
				n := p.r.Intn(40)
				p.d.Power(n)
				p.m.d.Power(n)
			}
			if errno := p.call(); errno != api.ErrDead {
				continue
			}
			falls++
			for range p.r.Intn(5) {
				p.call()
			}
			picks := anyPicks(p.r, p.r.Intn(6))
			p.d.Crash(picks)
			p.m.d.Crash(picks)
			p.reopen("after a crash", p.m.flushed)
		}
	}
	want(t, "whether the power failed", falls > 100, true)
}
