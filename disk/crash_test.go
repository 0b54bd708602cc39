package disk

import (
	"fmt"
	"math/rand"
	"slices"
	"strings"
	"testing"

	"matryoshka/api"
)

const (
	no  = false
	yes = true
)

// 5.4: the chapter's example.
func TestCrashExample(t *testing.T) {
	d := made(t, 9, "a=")
	must(t, d.Write("a", 0, sectors("x")))
	must(t, d.Flush("a"))
	must(t, d.Write("a", 0, sectors("y")))
	want(t, "ahead of it", contents(d), "a=y")
	d.Crash([]bool{no})
	want(t, "behind it", contents(d), "a=x")
}

// 5.4: writes over two files, of one sector more than once, and behind the durable end.
func TestCrashPicks(t *testing.T) {
	for _, c := range []struct {
		picks []bool
		shown string
	}{
		{nil, "a=xyz b="},
		{[]bool{no, no, no, no, no, no}, "a=xyz b="},
		{[]bool{yes, yes, yes, yes, yes, yes}, "a=xUY..v b=..P"},
		{slices.Repeat([]bool{yes}, 50), "a=xUY..v b=..P"},
		{[]bool{yes}, "a=xXz b="},
		{[]bool{no, yes}, "a=xyY b="},
		{[]bool{no, no, yes}, "a=xyz b=..p"},
		{[]bool{no, no, no, yes}, "a=xUz b="},
		{[]bool{yes, no, no, yes}, "a=xUz b="},
		{[]bool{yes, no, no, no, yes, no}, "a=xXz..v b="},
		{[]bool{no, no, no, no, yes}, "a=xyz..v b="},
		{[]bool{no, no, yes, no, no, yes}, "a=xyz b=..P"},
		{[]bool{no, no, yes, no, no, no, yes, yes}, "a=xyz b=..p"},
		{[]bool{no, no, no, no, no, yes}, "a=xyz b=..P"},
	} {
		d := made(t, 20, "a=xyz", "b=")
		must(t, d.Write("a", 1, sectors("XY")))
		must(t, d.Write("b", 2, sectors("p")))
		must(t, d.Write("a", 1, sectors("U")))
		must(t, d.Write("a", 5, sectors("v")))
		must(t, d.Write("b", 2, sectors("P")))
		d.Crash(c.picks)
		want(t, fmt.Sprint("picks ", c.picks), contents(d), c.shown)
		want(t, fmt.Sprint("used, picks ", c.picks), d.Used(), len(c.shown)-len("a= b="))
		d.Crash(c.picks)
		want(t, fmt.Sprint("once more, picks ", c.picks), contents(d), c.shown)
		must(t, d.Write("a", 0, sectors("Z")))
		want(t, fmt.Sprint("one write, picks ", c.picks), behindCrash(d, yes), strings.Replace(c.shown, "x", "Z", 1))
	}
}

// 5.4: what was cut or removed is not among the writes.
func TestCrashForgetsWhatIsGone(t *testing.T) {
	for _, c := range []struct {
		what  string
		do    func(d *Disk)
		picks []bool
		shown string
	}{
		{"nothing", func(d *Disk) {}, []bool{yes, no, yes, no, yes, yes}, "a=1y3 b=.5c=6"},
		{"cut", func(d *Disk) { d.Cut("a", 2) }, []bool{no, yes, yes}, "a=x2 b=4c="},
		{"cut, nothing of it", func(d *Disk) { d.Cut("a", 2) }, nil, "a=xy b=c="},
		{"cut to the size", func(d *Disk) { d.Cut("a", 3) }, []bool{no, no, yes}, "a=xy3 b=c="},
		{"cut to nothing", func(d *Disk) { d.Cut("a", 0) }, []bool{yes, yes}, "a= b=45c="},
		{"cut and grown", func(d *Disk) { d.Cut("a", 1); d.Write("a", 3, sectors("7")) },
			[]bool{yes, no, no, no, yes}, "a=1..7 b=c="},
		{"cut and written", func(d *Disk) { d.Cut("b", 1); d.Write("b", 1, sectors("7")) },
			[]bool{no, no, no, no, no, yes}, "a=xy b=.7c="},
		{"cut, what is left of no write", func(d *Disk) { d.Write("b", 4, sectors("7")); d.Cut("b", 3) }, nil,
			"a=xy b=c="},
		{"removed", func(d *Disk) { d.Remove("a") }, []bool{no, yes, yes}, "b=.5c=6"},
		{"made anew", func(d *Disk) { d.Create("b"); d.Write("b", 1, sectors("7")) },
			[]bool{no, no, no, yes, yes}, "a=xy b=.7c=6"},
		{"removed, and made", func(d *Disk) { d.Remove("b"); d.Create("b") }, []bool{yes, yes, yes, yes, yes, yes},
			"a=123 b=c=6"},
		{"one more", func(d *Disk) { d.Create("d"); d.Write("d", 0, sectors("7")) },
			[]bool{no, no, no, no, no, no, yes}, "a=xy b=c=d=7"},
		{"flushed", func(d *Disk) { d.Flush("a") }, []bool{no, yes}, "a=123 b=.5c="},
	} {
		d := made(t, 20, "a=xy", "b=", "c=")
		must(t, d.Write("a", 0, sectors("123")))
		must(t, d.Write("b", 0, sectors("45")))
		must(t, d.Write("c", 0, sectors("6")))
		c.do(d)
		d.Crash(c.picks)
		want(t, c.what, strings.NewReplacer(" c=", "c=", " d=", "d=").Replace(contents(d)), c.shown)
	}
}

// 5.4: the sizes of a file that was flushed, cut and written in turn.
func TestDurableSize(t *testing.T) {
	for _, c := range []struct {
		what  string
		do    func(d *Disk)
		shown string
	}{
		{"never flushed", func(d *Disk) {}, "a="},
		{"never flushed, cut", func(d *Disk) { d.Cut("a", 2) }, "a="},
		{"flushed", func(d *Disk) { d.Flush("a") }, "a=1234"},
		{"cut, flushed", func(d *Disk) { d.Cut("a", 2); d.Flush("a") }, "a=12"},
		{"flushed, cut", func(d *Disk) { d.Flush("a"); d.Cut("a", 2) }, "a=12"},
		{"flushed, cut twice", func(d *Disk) { d.Flush("a"); d.Cut("a", 1); d.Write("a", 1, sectors("56")); d.Cut("a", 2) },
			"a=1"},
		{"flushed, grown", func(d *Disk) { d.Flush("a"); d.Write("a", 6, sectors("5")) }, "a=1234"},
		{"flushed, grown, cut", func(d *Disk) { d.Flush("a"); d.Write("a", 6, sectors("5")); d.Cut("a", 5) }, "a=1234"},
		{"zeros at the end", func(d *Disk) { d.Write("a", 6, sectors("5")); d.Cut("a", 6); d.Flush("a") }, "a=1234.."},
		{"zeros alone", func(d *Disk) { d.Create("a"); d.Write("a", 6, sectors("5")); d.Cut("a", 3); d.Flush("a") }, "a=..."},
		{"flushed twice", func(d *Disk) { d.Flush("a"); d.Cut("a", 1); d.Write("a", 2, sectors("5")); d.Flush("a") },
			"a=1.5"},
	} {
		d := made(t, 20, "a=")
		must(t, d.Write("a", 0, sectors("1234")))
		c.do(d)
		want(t, c.what, behindCrash(d), c.shown)
	}
}

// 5.4
func TestCopyIsIndependent(t *testing.T) {
	lit := func() *Disk {
		d := made(t, 12, "a=xyz", "b=p")
		must(t, d.Write("a", 1, sectors("12")))
		must(t, d.Write("b", 2, sectors("3")))
		d.Power(4)
		return d
	}
	fresh := state(lit())
	for i, do := range []func(d *Disk){
		func(d *Disk) { d.Write("a", 0, sectors("9")) },
		func(d *Disk) { d.Write("a", 0, sectors("987654")) },
		func(d *Disk) { d.Write("b", 3, sectors("9")) },
		func(d *Disk) { d.Cut("a", 1) },
		func(d *Disk) { d.Cut("a", 1); d.Write("a", 1, sectors("98")) },
		func(d *Disk) { d.Cut("b", 0) },
		func(d *Disk) { d.Flush("a"); d.Flush("b") },
		func(d *Disk) { d.Create("a") },
		func(d *Disk) { d.Create("aa") },
		func(d *Disk) { d.Remove("a") },
		func(d *Disk) { d.Power(0) },
		func(d *Disk) { d.Power(1) },
		func(d *Disk) { d.Crash(nil) },
		func(d *Disk) { d.Crash([]bool{no, yes, yes}); d.Write("a", 0, sectors("987")) },
	} {
		d := lit()
		c := d.Copy()
		want(t, fmt.Sprint("a copy ", i), state(c), fresh)
		do(d)
		want(t, fmt.Sprint("the copy stands ", i), state(c), fresh)
		changed := state(d)
		do(c)
		want(t, fmt.Sprint("the copy does the same ", i), state(c), changed)
		want(t, fmt.Sprint("the disk stands ", i), state(d), changed)
	}
	d := dark(t)
	c := d.Copy()
	d.Crash(nil)
	want(t, "the power of a disk behind a crash", hasPower(d), true)
	want(t, "the power of its copy", hasPower(c), false)
	want(t, "the copy", contents(c), "a=qy b=p")
}

// 5.5: all picks that there are, behind each of some writes.
func TestWhatWasFlushedIsThere(t *testing.T) {
	d := made(t, 20, "a=xyz", "b=pq")
	must(t, d.Write("a", 4, sectors("w")))
	must(t, d.Flush("a"))
	flushed := "xyz.w"
	writes := []struct {
		at   int
		text string
	}{{1, "1"}, {3, "23"}, {5, "4"}, {1, "5"}, {8, "6"}}
	over := make([]bool, len(flushed))
	for _, w := range writes {
		must(t, d.Write("b", 0, sectors("r")))
		must(t, d.Write("a", w.at, sectors(w.text)))
		for k := range w.text {
			if w.at+k < len(over) {
				over[w.at+k] = true
			}
		}
		for mask := range 1 << 11 {
			shown := strings.TrimPrefix(strings.Fields(behindCrash(d, picksOf(mask, 11)...))[0], "a=")
			for k := range flushed {
				if len(shown) < len(flushed) || !over[k] && shown[k] != flushed[k] {
					t.Fatalf("mask %d: %s", mask, shown)
				}
			}
		}
	}
}

// picksOf is the picks of the lowest n bits of a mask.
func picksOf(mask, n int) []bool {
	picks := make([]bool, n)
	for k := range picks {
		picks[k] = mask>>k&1 == 1
	}
	return picks
}

// event is what befell a file: a sector written, a cut, or a flush.
type event struct {
	kind   byte // 'w', 'c', 'f'
	sector int  // or the n of the cut
	letter byte
	when   int
}

// history is all that befell a file since it was made. All that is asked of it is worked out anew, by the words of the
// chapter.
type history []event

// shows is the text of the file behind its events.
func (h history) shows() string {
	text := ""
	for _, e := range h {
		switch e.kind {
		case 'w':
			text += strings.Repeat(".", max(0, e.sector+1-len(text)))
			text = text[:e.sector] + string(e.letter) + text[e.sector+1:]
		case 'c':
			text = text[:e.sector]
		}
	}
	return text
}

// unflushed is the writes that a crash considers.
func (h history) unflushed() []event {
	var l []event
	for i, e := range h {
		gone := slices.ContainsFunc(h[i+1:], func(later event) bool {
			return later.kind == 'f' || later.kind == 'c' && later.sector <= e.sector
		})
		if e.kind == 'w' && !gone {
			l = append(l, e)
		}
	}
	return l
}

// durable is the text that a crash leaves, if no write survives.
func (h history) durable() string {
	last := -1
	for i, e := range h {
		if e.kind == 'f' {
			last = i
		}
	}
	if last < 0 {
		return ""
	}
	text := h[:last+1].shows()
	for _, e := range h[last+1:] {
		if e.kind == 'c' {
			text = text[:min(len(text), e.sector)]
		}
	}
	return text
}

// model is a disk that remembers everything.
type model struct {
	room  int
	files map[string]history
	when  int
	left  int // sectors that will be written, or none if it is below 0
	dead  bool
}

func (m *model) used() int {
	used := 0
	for _, h := range m.files {
		used += len(h.shows())
	}
	return used
}

func (m *model) add(name string, e event) {
	m.when++
	e.when = m.when
	m.files[name] = append(m.files[name], e)
}

func (m *model) write(name string, at int, text string) api.Errno {
	h, found := m.files[name]
	size := len(h.shows())
	switch {
	case m.dead:
		return api.ErrDead
	case !found:
		return api.ErrName
	case at < 0:
		return api.ErrRange
	case text != "" && m.used()-size+max(size, at+len(text)) > m.room:
		return api.ErrSpace
	}
	for k := range text {
		if m.left == 0 {
			m.dead = true
			return api.ErrDead
		}
		m.left--
		m.add(name, event{kind: 'w', sector: at + k, letter: text[k]})
	}
	return api.OK
}

func (m *model) change(kind byte, name string, n int) api.Errno {
	h, found := m.files[name]
	switch {
	case m.dead:
		return api.ErrDead
	case kind == '+':
		m.files[name] = nil
		return api.OK
	case !found:
		return api.ErrName
	case kind == '-':
		delete(m.files, name)
		return api.OK
	case kind == 'c' && (n < 0 || n > len(h.shows())):
		return api.ErrRange
	}
	m.add(name, event{kind: kind, sector: n})
	return api.OK
}

func (m *model) crash(picks []bool) {
	var all []event
	for _, h := range m.files {
		all = append(all, h.unflushed()...)
	}
	survives := func(e event) bool {
		earlier := 0
		for _, other := range all {
			if other.when < e.when {
				earlier++
			}
		}
		return earlier < len(picks) && picks[earlier]
	}
	behind := map[string]history{}
	for name, h := range m.files {
		var l history
		for k, letter := range []byte(h.durable()) {
			l = append(l, event{kind: 'w', sector: k, letter: letter})
		}
		for _, e := range h.unflushed() {
			if survives(e) {
				l = append(l, e)
			}
		}
		behind[name] = append(l, event{kind: 'f'})
	}
	m.files, m.dead, m.left = behind, false, -1
}

func (m *model) copy() *model {
	c := *m
	c.files = map[string]history{}
	for name, h := range m.files {
		c.files[name] = slices.Clone(h)
	}
	return &c
}

func (m *model) contents() string {
	var l []string
	for name, h := range m.files {
		l = append(l, name+"="+h.shows())
	}
	slices.Sort(l)
	return strings.Join(l, " ")
}

// both is a disk and its model.
type both struct {
	d *Disk
	m *model
}

func twins(t *testing.T, room int) both {
	d, errno := New(room)
	must(t, errno)
	return both{d, &model{room: room, files: map[string]history{}, left: -1}}
}

func (x both) copy() both {
	return both{x.d.Copy(), x.m.copy()}
}

func (x both) write(name string, at int, text string) (api.Errno, api.Errno) {
	return x.d.Write(name, at, sectors(text)), x.m.write(name, at, text)
}

func (x both) change(kind byte, name string, n int) (api.Errno, api.Errno) {
	modelled := x.m.change(kind, name, n)
	switch kind {
	case '+':
		return x.d.Create(name), modelled
	case '-':
		return x.d.Remove(name), modelled
	case 'c':
		return x.d.Cut(name, n), modelled
	}
	return x.d.Flush(name), modelled
}

func (x both) power(n int) {
	x.d.Power(n)
	x.m.left = max(n-1, -1)
}

func (x both) crash(picks []bool) {
	x.d.Crash(picks)
	x.m.crash(picks)
}

// differ tells how the disk is not as its model.
func (x both) differ() string {
	if shown, modelled := contents(x.d), x.m.contents(); shown != modelled {
		return shown + ", want " + modelled
	}
	if hasPower(x.d) == x.m.dead {
		return fmt.Sprint("power ", hasPower(x.d))
	}
	if x.d.Used() != x.m.used() {
		return fmt.Sprint("used ", x.d.Used())
	}
	return ""
}

// 5.1 to 5.5: all short runs of calls, and behind each of them all picks.
func TestShortRunsAreAsModelled(t *testing.T) {
	steps := []func(x both) (api.Errno, api.Errno){
		func(x both) (api.Errno, api.Errno) { return x.write("a", 0, "1") },
		func(x both) (api.Errno, api.Errno) { return x.write("a", 1, "23") },
		func(x both) (api.Errno, api.Errno) { return x.write("a", 3, "4") },
		func(x both) (api.Errno, api.Errno) { return x.write("b", 1, "5") },
		func(x both) (api.Errno, api.Errno) { return x.change('c', "a", 1) },
		func(x both) (api.Errno, api.Errno) { return x.change('c', "a", 2) },
		func(x both) (api.Errno, api.Errno) { return x.change('f', "a", 0) },
		func(x both) (api.Errno, api.Errno) { return x.change('+', "b", 0) },
		func(x both) (api.Errno, api.Errno) { x.power(2); return 0, 0 },
	}
	var run func(x both, done string, left int)
	run = func(x both, done string, left int) {
		for mask := range 1 << 5 {
			y := x.copy()
			y.crash(picksOf(mask, 5))
			if wrong := y.differ(); wrong != "" {
				t.Fatalf("steps%s, picks %b: %s", done, mask, wrong)
			}
		}
		for k := range steps {
			if left == 0 {
				return
			}
			y := x.copy()
			got, modelled := steps[k](y)
			if wrong := y.differ(); got != modelled || wrong != "" {
				t.Fatalf("steps%s %d: error %d, want %d; %s", done, k, got, modelled, wrong)
			}
			run(y, fmt.Sprint(done, " ", k), left-1)
		}
	}
	x := twins(t, 6)
	x.change('+', "a", 0)
	run(x, "", 4)
}

// 5.1 to 5.5: long runs of calls.
func TestLongRunsAreAsModelled(t *testing.T) {
	for seed := range 400 {
		random := rand.New(rand.NewSource(int64(seed)))
		x := twins(t, 4+random.Intn(20))
		for step := range 120 {
			name := string("abcd"[random.Intn(4)])
			var got, modelled api.Errno
			switch random.Intn(16) {
			case 0:
				got, modelled = x.change('+', name, 0)
			case 1:
				if random.Intn(4) == 0 {
					got, modelled = x.change('-', name, 0)
				}
			case 2, 3:
				got, modelled = x.change('c', name, random.Intn(9)-1)
			case 4, 5:
				got, modelled = x.change('f', name, 0)
			case 6:
				x.power(random.Intn(20) - 4)
			case 7:
				x.crash(picksOf(random.Int(), random.Intn(12)))
			case 8:
				x = x.copy()
			default:
				text := "ABCDEFGHIJ"[random.Intn(5):][:random.Intn(5)]
				got, modelled = x.write(name, random.Intn(10)-1, text)
			}
			y := x.copy()
			y.crash(picksOf(random.Int(), 30))
			if wrong := x.differ() + y.differ(); got != modelled || wrong != "" {
				t.Fatalf("seed %d, step %d: error %d, want %d; %s", seed, step, got, modelled, wrong)
			}
		}
	}
}
