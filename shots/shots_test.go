package shots

import (
	"fmt"
	"slices"
	"strings"
	"sync"
	"testing"

	"matryoshka/api"
)

func want[T any](t *testing.T, what string, got, wanted T) {
	t.Helper()
	if g, w := fmt.Sprintf("%+v", got), fmt.Sprintf("%+v", wanted); g != w {
		t.Fatalf("%s: %s, want %s", what, g, w)
	}
}

var zero = api.Entry{Kind: api.EntryZero}

func raw(start int) api.Entry {
	return api.Entry{Kind: api.EntryRaw, Start: start, Count: 2, Sum: uint32(start)}
}

// tableOf is a table of one leaf.
func tableOf(entries ...api.Entry) api.Table {
	return api.Table{L: [][]api.Entry{append(slices.Clone(entries), make([]api.Entry, 8-len(entries))...)}}
}

// wrongTable is a table that is right for no size of clusters.
func wrongTable() api.Table {
	return api.Table{L: [][]api.Entry{nil, {{Kind: 9, Start: -1, Count: 1 << 40, Size: -7}, raw(3)}, {}, slices.Repeat([]api.Entry{zero}, 11), nil}}
}

func s(from, to int) api.Span {
	return api.Span{From: from, To: to}
}

func on(name string, l ...api.Span) api.Bitmap {
	return api.Bitmap{Name: name, On: true, L: l}
}

func off(name string, l ...api.Span) api.Bitmap {
	return api.Bitmap{Name: name, L: l}
}

// shotsOf are shots of these names, each of which is unlike the others.
func shotsOf(names ...string) []api.Shot {
	var l []api.Shot
	for i, name := range names {
		l = append(l, api.Shot{Name: name, Size: 8 + 3*i, T: tableOf(zero, raw(2+i))})
	}
	return l
}

// namesOf are the names of the shots.
func namesOf(m api.Meta) string {
	var l []string
	for _, shot := range m.Shots {
		l = append(l, shot.Name)
	}
	return strings.Join(l, " ")
}

// right is a meta of a common kind.
func right() api.Meta {
	return api.Meta{
		Cluster: 1, Size: 12, Back: "below", T: tableOf(raw(4), zero, raw(6)), Shots: shotsOf("a", "b", "c"),
		Maps: []api.Bitmap{on("m", s(1, 2)), off("n", s(0, 2), s(4, 6))}, Counts: []int{1, 1, 0, 2},
	}
}

// wrongs are metas that are right in nothing.
func wrongs() []api.Meta {
	var all []api.Meta
	for _, size := range []int{-1 << 63, -5, 0, 5, 1 << 40, 1<<63 - 1} {
		for _, cluster := range []int{-1 << 63, -1, 0, 6, 7, 64, 1<<63 - 1} {
			m := api.Meta{Cluster: cluster, Size: size, Back: "NO NAME\xff", T: wrongTable(), Counts: []int{-1, 1 << 50}}
			m.Shots = shotsOf("a", "", "a", "No Name", "\xff\x00")
			m.Shots[0].T, m.Shots[1].Size, m.Shots[2].Size = wrongTable(), -3, 1<<62
			m.Maps = []api.Bitmap{on("m", s(5, 3)), off("m", s(3, 9), s(1, 2)), on("", s(-4, 1<<40)), off("x", s(0, 4), s(4, 5))}
			all = append(all, m)
		}
	}
	return all
}

// isOfNames goes by the words of 12.1.
func isOfNames(b byte) bool {
	return strings.IndexByte("abcdefghijklmnopqrstuvwxyz0123456789-_.", b) >= 0
}

// 12.1
func TestEveryByteOfAName(t *testing.T) {
	for i := range 256 {
		b := byte(i)
		for _, name := range []string{string([]byte{b}), "a" + string([]byte{b}), string([]byte{'a', b, 'z'}), string([]byte{b, '9'}), "0123456_" + string([]byte{b}) + "-......"} {
			want(t, fmt.Sprintf("%q", name), Name(name), isOfNames(b))
		}
		want(t, fmt.Sprintf("15 and %q", b), Name("abcdefghijklmno"+string([]byte{b})), isOfNames(b))
		want(t, fmt.Sprintf("16 and %q", b), Name("abcdefghijklmnop"+string([]byte{b})), false)
	}
}

// 12.1
func TestLengthsOfNames(t *testing.T) {
	for _, piece := range []string{"a", "9", "-", "_", ".", "m-1"} {
		for n := range 70 {
			name := strings.Repeat(piece, n)
			want(t, fmt.Sprintf("%q", name), Name(name), n > 0 && len(name) <= 16)
		}
		want(t, "many", Name(strings.Repeat(piece, 1<<18)), false)
	}
	for _, n := range []int{256 + 1, 256 + 16, 65536 + 1, 65536 + 16} {
		want(t, fmt.Sprint(n), Name(strings.Repeat("x", n)), false)
	}
}

// 12.1: letters of other alphabets, marks beside them, and bytes that are no UTF-8.
func TestNamesOfOtherBytes(t *testing.T) {
	for _, name := range []string{"\u00e4", "\u0430", "\u0131", "a\u0301", "\u0663", "\uff41", "\xc3", "a\xc3", "\xe4", "\xff\xfe", "\xed\xa0\x80", "\x80", "\xf4\x90\x80\x80", "A", "Z", "aBc", "a b", " a", "a ", "a\n", "a/b", "a:b", "a,b", "a+b", "~", "a\x00", "{", "`", "[", "@", "^"} {
		want(t, fmt.Sprintf("%q", name), Name(name), false)
	}
	for _, name := range []string{".", "..", "-", "_", "0", "z", "a.b-c_9", "....------______", "0000000000000000"} {
		want(t, fmt.Sprintf("%q", name), Name(name), true)
	}
}

// calls tells what all calls return.
func calls(m api.Meta, name string) string {
	added, a := Add(m, name)
	back, b := Back(m, name)
	dropped, d := Drop(m, name)
	found, ok := Find(m, name)
	return fmt.Sprintf("%v %+v %d %+v %d %+v %d %+v %v", Name(name), added, a, back, b, dropped, d, found, ok)
}

// R1 and R5: the same calls have the same results, whatever runs beside them.
func TestCallsShareNothing(t *testing.T) {
	metas := append(wrongs(), right(), api.Meta{})
	names := []string{"a", "c", "new", "", "\xff\x00", "No Name"}
	var wanted []string
	for _, m := range metas {
		for _, name := range names {
			wanted = append(wanted, calls(m, name))
		}
	}
	var all sync.WaitGroup
	for range 8 {
		all.Go(func() {
			for i, text := range wanted {
				if calls(metas[i/len(names)], names[i%len(names)]) != text {
					t.Errorf("another result for %d", i)
				}
			}
		})
	}
	all.Wait()
}
