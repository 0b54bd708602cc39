package chain

import (
	"fmt"
	"math/rand"
	"slices"
	"strings"
	"testing"

	"matryoshka/api"
)

// linksOf are links from a text such as "a-b b-": a has the Back b, and b has none.
func linksOf(text string) []api.Link {
	var l []api.Link
	for _, word := range strings.Fields(text) {
		name, back, _ := strings.Cut(word, "-")
		l = append(l, api.Link{Name: name, Back: back})
	}
	return l
}

// rowOf are links of n images, 1 and so on, each of which has the next one as its Back, and the last one this one.
func rowOf(n int, last string) []api.Link {
	var l []api.Link
	for k := 1; k <= n; k++ {
		l = append(l, api.Link{Name: fmt.Sprint(k), Back: fmt.Sprint(k + 1)})
	}
	l[n-1].Back = last
	return l
}

func checkCheck(t *testing.T, l []api.Link, name string, wanted api.Errno) {
	t.Helper()
	kept := slices.Clone(l)
	want(t, fmt.Sprintf("Check(%v, %q)", l, name), Check(l, name), wanted)
	want(t, "the links", l, kept)
}

// 18.1: each error, and none.
func TestCheck(t *testing.T) {
	for _, x := range []struct {
		links, name string
		errno       api.Errno
	}{
		{"a-", "a", api.OK},
		{"a-b b-", "a", api.OK},
		{"b- a-b", "a", api.OK},
		{"a-b b-", "b", api.OK},
		{"a-b b-a", "c", api.ErrNone},
		{"a-b", "b", api.ErrNone},
		{"", "a", api.ErrNone},
		{"a-b", "a", api.ErrName},
		{"a-b b-c", "a", api.ErrName},
		{"a-a", "a", api.ErrCycle},
		{"a-b b-a", "a", api.ErrCycle},
		{"a-b b-a", "b", api.ErrCycle},
		{"a-b b-b", "a", api.ErrCycle},
		{"a-b b-c c-b", "a", api.ErrCycle},
		{"a-b b- c-c", "a", api.OK},
		{"a-b b- c-d", "a", api.OK},
	} {
		checkCheck(t, linksOf(x.links), x.name, x.errno)
	}
}

// 18.1: of several links of one name the first one counts, for the name itself and for a Back.
func TestCheckTakesTheFirstLink(t *testing.T) {
	for _, x := range []struct {
		links, name string
		errno       api.Errno
	}{
		{"a- a-a", "a", api.OK},
		{"a-a a-", "a", api.ErrCycle},
		{"a- a-none", "a", api.OK},
		{"a-none a-", "a", api.ErrName},
		{"a-b b- b-a", "a", api.OK},
		{"a-b b-a b-", "a", api.ErrCycle},
		{"b-a a-b b-", "a", api.ErrCycle},
		{"a-b a- b-none b-", "a", api.ErrName},
		{"a-b a- b- b-none", "a", api.OK},
		{"b- a-b a-a b-b a- b-a", "a", api.OK},
	} {
		checkCheck(t, linksOf(x.links), x.name, x.errno)
	}
}

// 18.1: names are compared byte by byte, valid or not; an empty Back ends the sequence, also if an image has no name.
func TestCheckOfNames(t *testing.T) {
	long := strings.Repeat("x", 1<<16)
	for _, x := range []struct {
		l     []api.Link
		name  string
		errno api.Errno
	}{
		{nil, "", api.ErrNone},
		{nil, "a", api.ErrNone},
		{[]api.Link{}, "", api.ErrNone},
		{linksOf("a-"), "", api.ErrNone},
		{[]api.Link{{}}, "", api.OK},
		{[]api.Link{{Back: "a"}}, "", api.ErrName},
		{[]api.Link{{Back: "a"}, {Name: "a"}}, "", api.OK},
		{[]api.Link{{Back: "a"}, {Name: "a"}}, "a", api.OK},
		{[]api.Link{{Back: "a"}, {Name: "a", Back: "a"}}, "", api.ErrCycle},
		{linksOf("a-"), "A", api.ErrNone},
		{linksOf("a-A"), "a", api.ErrName},
		{linksOf("a-"), "a ", api.ErrNone},
		{linksOf("a-"), "a\x00", api.ErrNone},
		{linksOf("ab-"), "a", api.ErrNone},
		{[]api.Link{{Name: "\xff", Back: long}, {Name: long, Back: "\ufffd"}}, "\xff", api.ErrName},
		{[]api.Link{{Name: "\xff", Back: long}, {Name: long}}, "\xff", api.OK},
	} {
		checkCheck(t, x.l, x.name, x.errno)
	}
}

// 18.1: as many images as MaxDepth, and one more; from each of them on. What ends the sequence may be no image.
func TestCheckOfDepths(t *testing.T) {
	for n := 1; n <= 12; n++ {
		for from := 1; from <= n; from++ {
			met, name := n-from+1, fmt.Sprint(from)
			ends, none := api.OK, api.ErrName
			if met > 8 {
				ends, none = api.ErrDeep, api.ErrDeep
			}
			checkCheck(t, rowOf(n, ""), name, ends)
			// Behind eight images the ninth one is not there, so that there are not more than eight.
			checkCheck(t, rowOf(n, "none"), name, none)
			reversed := rowOf(n, "")
			slices.Reverse(reversed)
			checkCheck(t, reversed, name, ends)
		}
	}
}

// 18.1: cycles of each length, which the first image belongs to, or which begin behind some others.
func TestCheckOfCycles(t *testing.T) {
	for ahead := 0; ahead <= 10; ahead++ {
		for length := 1; length <= 12; length++ {
			wanted := api.ErrCycle
			if ahead+length > 8 {
				// The ninth image is met for the first time.
				wanted = api.ErrDeep
			}
			checkCheck(t, rowOf(ahead+length, fmt.Sprint(ahead+1)), "1", wanted)
		}
	}
}

// followed is what 18.1 says, image by image.
func followed(l []api.Link, name string) api.Errno {
	backs := map[string]string{}
	for _, link := range slices.Backward(l) {
		backs[link.Name] = link.Back
	}
	met := map[string]int{}
	for n := 1; ; n++ {
		back, ok := backs[name]
		switch {
		case !ok && n == 1:
			return api.ErrNone
		case !ok:
			return api.ErrName
		case met[name] > 0:
			return api.ErrCycle
		case n > 8:
			return api.ErrDeep
		case back == "":
			return api.OK
		}
		met[name], name = n, back
	}
}

// 18.1: any links.
func TestCheckOfAnyLinks(t *testing.T) {
	r := rand.New(rand.NewSource(1))
	seen := map[api.Errno]int{}
	for range 20000 {
		names := 1 + r.Intn(20)
		any := func() string { return fmt.Sprint(r.Intn(names)) }
		var l []api.Link
		for range r.Intn(60) {
			link := api.Link{Name: any(), Back: any()}
			if r.Intn(20) == 0 {
				link.Back = ""
			}
			l = append(l, link)
		}
		name := any()
		wanted := followed(l, name)
		seen[wanted]++
		checkCheck(t, l, name, wanted)
	}
	for _, errno := range []api.Errno{api.OK, api.ErrNone, api.ErrName, api.ErrCycle, api.ErrDeep} {
		want(t, fmt.Sprint("whether enough were answered ", errno), seen[errno] > 20, true)
	}
}

// R1: very many links.
func TestCheckOfManyLinks(t *testing.T) {
	l := rowOf(300000, "")
	checkMany := func(from int, wanted api.Errno) {
		want(t, fmt.Sprint("from ", from), Check(l, fmt.Sprint(from)), wanted)
	}
	checkMany(1, api.ErrDeep)
	checkMany(299992, api.ErrDeep)
	checkMany(299993, api.OK)
	checkMany(300001, api.ErrNone)
}
