package lz

import (
	"bytes"
	"math/rand"
	"slices"
	"strings"
	"sync"
	"testing"

	"matryoshka/api"
)

func random(seed int64, n int) []byte {
	b := make([]byte, n)
	rand.New(rand.NewSource(seed)).Read(b)
	return b
}

// of is n random bytes of so many kinds.
func of(kinds, n int) []byte {
	b := random(int64(kinds*n), n)
	for i := range b {
		b[i] %= byte(kinds)
	}
	return b
}

// apart is the same four bytes again and again, each time behind so many bytes that have no repetition.
func apart(between, repeats int) []byte {
	noise := random(4, between*repeats)
	var b []byte
	for i := range repeats {
		b = append(b, noise[i*between:(i+1)*between]...)
		b = append(b, "same"...)
	}
	return b
}

// samples are byte strings of many lengths, with much and with no repetition.
func samples() [][]byte {
	all := [][]byte{nil, {}, []byte("a"), []byte("aaaa"), []byte("aaaaa"), []byte("abcdabcd"), []byte("abcdabcdabcda"), []byte(strings.Repeat("matryoshka ", 500))}
	for n := range 300 {
		all = append(all, make([]byte, n), random(int64(n), n), of(2, n), of(3, n))
	}
	for _, n := range []int{1000, 5000, 65535, 65536, 65540, 100_000} {
		all = append(all, make([]byte, n), random(int64(n), n), of(2, n), of(10, n))
	}
	for _, between := range []int{0, 1, 10, 11, 14, 15, 16, 250, 266, 269, 270, 271, 500, 524, 525, 526, 780, 1000} {
		all = append(all, apart(between, 50))
	}
	return all
}

func checkPack(t *testing.T, b []byte) []byte {
	t.Helper()
	packed := Pack(b)
	if len(packed) > len(b)+len(b)/200+16 {
		t.Errorf("%d bytes are packed in %d", len(b), len(packed))
	}
	// 3.3: in room for just so many bytes.
	for _, most := range []int{len(b), 1 << 20} {
		if got, errno := Unpack(packed, most); errno != api.OK || !bytes.Equal(got, b) {
			t.Fatalf("Unpack of Pack of %d bytes, %.60x, = %d bytes, %d", len(b), b, len(got), errno)
		}
	}
	if got, errno := decode(packed, len(b)); errno != api.OK || !bytes.Equal(got, b) {
		t.Fatalf("by the text, Pack of %d bytes is %d bytes, %d", len(b), len(got), errno)
	}
	return packed
}

// 3.2, 3.3
func TestUnpackOfPack(t *testing.T) {
	for _, b := range samples() {
		packed := checkPack(t, b)
		if len(b) > 0 {
			if got, errno := Unpack(packed, len(b)-1); errno != api.ErrLong || len(got) != 0 {
				t.Errorf("%d bytes in one byte less: %d, %d", len(b), len(got), errno)
			}
		}
	}
}

// 3.2: all byte strings of two kinds of bytes.
func TestPackOfAllShortStrings(t *testing.T) {
	for n := range 14 {
		for bits := range 1 << n {
			b := make([]byte, n)
			for i := range b {
				b[i] = 'a' + byte(bits>>i&1)
			}
			checkPack(t, b)
		}
	}
}

// 3.2, 3.3
func TestPackOfTheMostBytes(t *testing.T) {
	for _, n := range []int{1<<20 - 1, 1 << 20} {
		checkPack(t, random(1, n))
		checkPack(t, of(4, n))
		checkPack(t, make([]byte, n))
		checkPack(t, bytes.Repeat([]byte(strings.Repeat("matryoshka ", 11)+"."), 1<<14)[:n])
	}
}

// 3.2
func TestPackOfTooManyBytes(t *testing.T) {
	for _, n := range []int{1<<20 + 1, 1<<20 + 2, 1 << 21} {
		if packed := Pack(make([]byte, n)); len(packed) != 0 {
			t.Errorf("%d bytes are packed in %d", n, len(packed))
		}
	}
}

// 3.2: even where each repetition costs as much as it saves.
func TestPackOfScatteredRepetitions(t *testing.T) {
	for between := range 600 {
		checkPack(t, apart(between, 12))
	}
}

// 3.2: a distance has two bytes.
func TestPackOfFarRepetitions(t *testing.T) {
	for _, between := range []int{65530, 65531, 65532, 65533, 131068} {
		b := apart(between, 3)
		checkPack(t, b)
		checkPack(t, b[between:])
	}
	// A pair that lies closer is found behind one that lies too far off.
	checkPack(t, append(apart(65600, 2), "some same"...))
}

// 3.2
func TestPackOfEqualArguments(t *testing.T) {
	for _, b := range samples() {
		if !bytes.Equal(Pack(b), Pack(slices.Clone(b))) {
			t.Fatalf("%d bytes are packed in two ways", len(b))
		}
	}
}

// 3.3
func TestPackOfOneByteRepeated(t *testing.T) {
	for _, n := range []int{1001, 1002, 1010, 1500, 5000, 65535, 65536, 65537, 300_000, 1<<20 - 1, 1 << 20} {
		for _, c := range []byte{0, 1, 'a', 0xff} {
			if packed := checkPack(t, bytes.Repeat([]byte{c}, n)); len(packed)*10 >= n {
				t.Errorf("%d bytes of %x are packed in %d", n, c, len(packed))
			}
		}
	}
}

// What is repeated is found, though the promises ask it of one byte only.
func TestPackOfRepetition(t *testing.T) {
	for _, s := range []string{"ab", "abc", "abcd", "matryoshka"} {
		if packed := checkPack(t, []byte(strings.Repeat(s, 100))); len(packed) > 20 {
			t.Errorf("%s is packed in %d", s, len(packed))
		}
	}
}

// R3
func TestArgumentsAreNotChanged(t *testing.T) {
	for _, s := range []string{"", "a", "\x14a\x01\x00\x10a", "\x20ab\x02\x00", "\x20abcd", "\x20ab\x00\x00", strings.Repeat("abcd", 40)} {
		room := []byte(s + "behind the length")
		b, before := room[:len(s)], slices.Clone(room)
		Pack(b)
		for _, most := range []int{-1, 0, 1, 5, 99, 1 << 20} {
			Unpack(b, most)
		}
		if !bytes.Equal(room, before) {
			t.Errorf("%q was changed to %q", before, room)
		}
	}
}

// scribble writes over all of a list, and into its spare capacity.
func scribble(b []byte) {
	b = b[:cap(b)]
	for i := range b {
		b[i] = '#'
	}
}

// R3
func TestResultsAreNewMemory(t *testing.T) {
	for _, s := range []string{"", "a", "none of it", strings.Repeat("abcd", 40)} {
		b := append(make([]byte, 0, 500), s...)
		packed, other := Pack(b), Pack(b)
		want := slices.Clone(other)
		scribble(packed)
		scribble(b)
		if !bytes.Equal(other, want) {
			t.Errorf("packed: %q, want %q", other, want)
		}
		first, _ := Unpack(other, 500)
		second, _ := Unpack(other, 500)
		scribble(first)
		if !bytes.Equal(other, want) || string(second) != s {
			t.Errorf("packed: %q, want %q, unpacked: %q, want %q", other, want, second, s)
		}
		scribble(other)
		if string(second) != s {
			t.Errorf("unpacked: %q, want %q", second, s)
		}
	}
}

// R3
func TestNilAndEmptyAreEquivalent(t *testing.T) {
	for _, b := range [][]byte{nil, {}, make([]byte, 0, 20)} {
		if packed := Pack(b); !bytes.Equal(packed, Pack(nil)) || len(packed) == 0 {
			t.Errorf("nothing is packed in %x", packed)
		}
		for _, most := range []int{0, 9, 1 << 20} {
			if got, errno := Unpack(b, most); errno != api.ErrForm || len(got) != 0 {
				t.Errorf("Unpack of nothing = %q, %d", got, errno)
			}
		}
	}
}

// R1 and R5: the same calls have the same results, whatever runs beside them.
func TestCallsShareNothing(t *testing.T) {
	b := of(3, 2000)
	want := Pack(b)
	var all sync.WaitGroup
	for range 8 {
		all.Go(func() {
			for range 20 {
				packed := Pack(b)
				got, errno := Unpack(packed, len(b))
				if !bytes.Equal(packed, want) || errno != api.OK || !bytes.Equal(got, b) {
					t.Error("another result")
				}
			}
		})
	}
	all.Wait()
}
