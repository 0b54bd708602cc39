package lz

import (
	"bytes"
	"math"
	"math/rand"
	"slices"
	"strings"
	"testing"

	"matryoshka/api"
)

// decoder goes the way of the chapter's words, byte by byte; an error ends it by a panic.
type decoder struct {
	b    []byte
	out  []byte
	most int
}

func (d *decoder) next() byte {
	if len(d.b) == 0 {
		panic(api.ErrForm)
	}
	c := d.b[0]
	d.b = d.b[1:]
	return c
}

func (d *decoder) put(c byte) {
	if len(d.out) == d.most {
		panic(api.ErrLong)
	}
	d.out = append(d.out, c)
}

func (d *decoder) added(n int) int {
	if n < 15 {
		return n
	}
	for {
		c := d.next()
		n += int(c)
		if c != 255 {
			return n
		}
	}
}

func (d *decoder) sequence() {
	token := int(d.next())
	for range d.added(token / 16) {
		d.put(d.next())
	}
	if len(d.b) == 0 {
		return
	}
	distance := int(d.next())
	distance += 256 * int(d.next())
	if distance == 0 || distance > len(d.out) {
		panic(api.ErrForm)
	}
	for range d.added(token%16) + 4 {
		d.put(d.out[len(d.out)-distance])
	}
}

func decode(b []byte, most int) (out []byte, errno api.Errno) {
	if most < 0 || most > 1<<20 {
		return nil, api.ErrArg
	}
	defer func() {
		if met := recover(); met != nil {
			out, errno = nil, met.(api.Errno)
		}
	}()
	d := decoder{b: b, most: most}
	d.sequence()
	for len(d.b) > 0 {
		d.sequence()
	}
	return d.out, api.OK
}

// cut is b with other bytes behind it, within its capacity.
func cut(b string) []byte {
	return []byte(b + "\x10z\x01\x00\x00\x00 behind the length")[:len(b)]
}

func checkUnpack(t *testing.T, b string, most int, want string, wantErrno api.Errno) {
	t.Helper()
	for _, given := range [][]byte{[]byte(b), cut(b)} {
		got, errno := Unpack(given, most)
		if string(got) != want || errno != wantErrno {
			t.Errorf("Unpack(%.40x, %d) = %.40q of %d bytes, %d, want %.40q of %d bytes, %d", b, most, got, len(got), errno, want, len(want), wantErrno)
		}
	}
}

// checkError also holds R4: beside an error nothing is put out.
func checkError(t *testing.T, b string, most int, want api.Errno) {
	t.Helper()
	checkUnpack(t, b, most, "", want)
}

func times(c string, n int) string {
	return strings.Repeat(c, n)
}

// 3.1
func TestUnpackOfTheExamples(t *testing.T) {
	checkUnpack(t, "\x10a", 1, "a", api.OK)
	checkUnpack(t, "\x14a\x01\x00\x10a", 10, "aaaaaaaaaa", api.OK)
	checkUnpack(t, "\x14a\x01\x00\x10a", 1<<20, "aaaaaaaaaa", api.OK)
	checkUnpack(t, "\x00", 0, "", api.OK)
	checkUnpack(t, "\x00", 1<<20, "", api.OK)
}

// 3.1: the half L is the high one, M the low one; behind the literals the data may end, whatever M is.
func TestUnpackOfHalves(t *testing.T) {
	for l := range 15 {
		literals := "0123456789abcdef"[:l]
		for m := range 16 {
			token := string([]byte{byte(16*l + m)})
			checkUnpack(t, token+literals, 99, literals, api.OK)
			if l > 0 && m < 15 {
				checkUnpack(t, token+literals+"\x01\x00", 99, literals+times(literals[l-1:], m+4), api.OK)
				checkUnpack(t, token+literals+"\x01\x00\x10z", 99, literals+times(literals[l-1:], m+4)+"z", api.OK)
			}
		}
	}
}

// further are the bytes that follow a half of 15, and what they add to it.
var further = []struct {
	b     string
	added int
}{
	{"\x00", 0}, {"\x01", 1}, {"\x7f", 127}, {"\x80", 128}, {"\xfe", 254},
	{"\xff\x00", 255}, {"\xff\x01", 256}, {"\xff\xfe", 509}, {"\xff\xff\x00", 510}, {"\xff\xff\xff\x0a", 775},
	{times("\xff", 100) + "\x00", 25500}, {times("\xff", 1000) + "\xfe", 255254},
}

// 3.1
func TestUnpackOfFurtherBytesOfL(t *testing.T) {
	for _, c := range further {
		literals := times("literal ", (15+c.added)/8+1)[:15+c.added]
		checkUnpack(t, "\xf0"+c.b+literals, 1<<20, literals, api.OK)
		checkUnpack(t, "\xf0"+c.b+literals, len(literals), literals, api.OK)
		checkError(t, "\xf0"+c.b+literals, len(literals)-1, api.ErrLong)
		checkError(t, "\xf0"+c.b+literals[1:], 1<<20, api.ErrForm)
		checkUnpack(t, "\xf0"+c.b+literals+"\x01\x00\x10z", 1<<20, literals+times(literals[len(literals)-1:], 4)+"z", api.OK)
	}
}

// 3.1
func TestUnpackOfFurtherBytesOfM(t *testing.T) {
	for _, c := range further {
		want := "ab" + times("ab", (19+c.added)/2+1)[:19+c.added]
		checkUnpack(t, "\x2fab\x02\x00"+c.b, 1<<20, want, api.OK)
		checkUnpack(t, "\x2fab\x02\x00"+c.b, len(want), want, api.OK)
		checkError(t, "\x2fab\x02\x00"+c.b, len(want)-1, api.ErrLong)
		checkUnpack(t, "\x2fab\x02\x00"+c.b+"\x10z", 1<<20, want+"z", api.OK)
	}
}

// 3.1
func TestUnpackOfBothHalvesFull(t *testing.T) {
	literals := "0123456789abcdefg"
	checkUnpack(t, "\xff\x02"+literals+"\x03\x00\x01", 99, literals+times("efg", 7)[:20], api.OK)
	checkUnpack(t, "\xff\x02"+literals, 99, literals, api.OK)
	checkUnpack(t, "\xff\x00"+literals[:15]+"\x0f\x00\xff\x00\x00", 999, literals[:15]+times(literals[:15], 19)[:274], api.OK)
}

// 3.1
func TestUnpackOfWhatEndsWithinASequence(t *testing.T) {
	for _, b := range []string{
		"",
		// among the bytes that are added to L
		"\xf0", "\xff", "\xf0\xff", "\xf0\xff\xff\xff", "\x10a\x01\x00\xf3",
		// among the literals
		"\x10", "\x20a", "\x1f", "\xe0" + times("a", 13), "\xf0\x00", "\xf0\x00" + times("a", 14), "\xf0\xff\x00" + times("a", 269), "\x10a\x01\x00\x20a",
		// within a distance
		"\x10a\x01", "\x10a\x00", "\x1fa\x01", "\x00\x01", "\xf0\x00" + times("a", 15) + "\x01", "\x10a\x01\x00\x10a\xff",
		// among the bytes that are added to M
		"\x1fa\x01\x00", "\x1fa\x01\x00\xff", "\x1fa\x01\x00\xff\xff\xff", "\x10a\x01\x00\x0f\x01\x00", "\x10a\x01\x00\x0f\x01\x00\xff",
	} {
		checkError(t, b, 1<<20, api.ErrForm)
	}
}

// 3.1
func TestUnpackOfWhatEndsBetweenSequences(t *testing.T) {
	checkUnpack(t, "\x10a\x01\x00", 99, "aaaaa", api.OK)
	checkUnpack(t, "\x10a\x01\x00\x00", 99, "aaaaa", api.OK)
	checkUnpack(t, "\x10a\x01\x00\x0f", 99, "aaaaa", api.OK)
	checkUnpack(t, "\x10a\x01\x00\x00\x01\x00", 99, "aaaaaaaaa", api.OK)
	checkUnpack(t, "\x10a\x01\x00\x10b", 99, "aaaaab", api.OK)
	checkUnpack(t, "\x10a\x01\x00\x11b\x06\x00", 99, "aaaaabaaaaa", api.OK)
}

// 3.1
func TestUnpackOfDistances(t *testing.T) {
	checkUnpack(t, "\x30abc\x01\x00", 99, "abccccc", api.OK)
	checkUnpack(t, "\x30abc\x02\x00", 99, "abcbcbc", api.OK)
	checkUnpack(t, "\x30abc\x03\x00", 99, "abcabca", api.OK)
	checkUnpack(t, "\x60abcdef\x06\x00", 99, "abcdefabcd", api.OK)
	checkUnpack(t, "\x60abcdef\x05\x00\x10z", 99, "abcdefbcdez", api.OK)
	for _, distance := range []string{"\x00\x00", "\x04\x00", "\x05\x00", "\x00\x01", "\x01\x01", "\x03\x01", "\xff\xff"} {
		checkError(t, "\x30abc"+distance, 99, api.ErrForm)
		checkError(t, "\x30abc"+distance+"\x10z", 99, api.ErrForm)
	}
	checkError(t, "\x00\x01\x00", 99, api.ErrForm)
	checkError(t, "\x00\x00\x00", 99, api.ErrForm)
	// What the sequences before have output counts, what this one is to output does not.
	checkUnpack(t, "\x10a\x01\x00\x00\x05\x00", 99, "aaaaaaaaa", api.OK)
	checkError(t, "\x10a\x01\x00\x00\x06\x00", 99, api.ErrForm)
}

// 3.1: the greatest distances, and both bytes of them.
func TestUnpackOfFarDistances(t *testing.T) {
	far := make([]byte, 65535)
	rand.New(rand.NewSource(1)).Read(far)
	b := "\xf0" + times("\xff", 256) + "\xf0" + string(far)
	for _, distance := range []int{4, 255, 256, 257, 4660, 32768, 65280, 65534, 65535} {
		tail := string([]byte{byte(distance % 256), byte(distance / 256)})
		from := len(far) - distance
		checkUnpack(t, b+tail, 1<<20, string(far)+string(far[from:from+4]), api.OK)
	}
	shorter := "\xf0" + times("\xff", 256) + "\xef" + string(far[1:])
	checkError(t, shorter+"\xff\xff", 1<<20, api.ErrForm)
	checkUnpack(t, shorter+"\xfe\xff", 1<<20, string(far[1:])+string(far[1:5]), api.OK)
}

// 3.1, R2: most comes first, whatever b is.
func TestUnpackOfMost(t *testing.T) {
	for _, b := range []string{"", "\x00", "\x10a", "\x10", "\x14a\x01\x00\x10a", "\x20ab\x00\x00"} {
		for _, most := range []int{-1, -2, math.MinInt, math.MinInt + 1, 1<<20 + 1, 1 << 21, 1 << 32, 1<<32 + 1, math.MaxInt} {
			checkError(t, b, most, api.ErrArg)
		}
	}
	for _, most := range []int{0, 1, 1<<20 - 1, 1 << 20} {
		checkError(t, "", most, api.ErrForm)
		checkUnpack(t, "\x00", most, "", api.OK)
	}
	checkError(t, "\x10a", 0, api.ErrLong)
	checkError(t, "\x10", 0, api.ErrForm)
	checkUnpack(t, "\x10a", 1, "a", api.OK)
	whole := "\x1fa\x01\x00" + times("\xff", 4111) + "\xeb"
	checkUnpack(t, whole, 1<<20, times("a", 1+19+4111*255+0xeb), api.OK)
}

// 3.1: 2^20 bytes are put out, not one more.
func TestUnpackOfTheMostOutput(t *testing.T) {
	// 1 literal and 15 + 4 + 4111 * 255 + 251 copies
	b := "\x1fa\x01\x00" + times("\xff", 4111) + "\xfb"
	checkUnpack(t, b, 1<<20, times("a", 1<<20), api.OK)
	checkUnpack(t, b+"\x00", 1<<20, times("a", 1<<20), api.OK)
	checkError(t, b, 1<<20-1, api.ErrLong)
	checkError(t, b+"\x10a", 1<<20, api.ErrLong)
	checkError(t, b+"\x00\x01\x00", 1<<20, api.ErrLong)
	checkError(t, "\x1fa\x01\x00"+times("\xff", 4111)+"\xfc", 1<<20, api.ErrLong)
	checkError(t, "\x1fa\x01\x00"+times("\xff", 1<<20)+"\x00", 1<<20, api.ErrLong)
}

// 3.1: output that just fits, and a byte too many, among literals and among copies, whatever follows.
func TestUnpackOfTooMuch(t *testing.T) {
	checkUnpack(t, "\x20ab", 2, "ab", api.OK)
	checkUnpack(t, "\x20ab\x02\x00", 6, "ababab", api.OK)
	checkUnpack(t, "\x20ab\x02\x00\x10z", 7, "abababz", api.OK)
	for _, behind := range []string{"", "\x00", "\x10z", "\x01", "\xf0", "\x1fz\x00\x00", "\x00\x00\x00\x00", times("\xff", 9)} {
		checkError(t, "\x20ab"+behind, 1, api.ErrLong)
		checkError(t, "\x20ab"+behind, 0, api.ErrLong)
		for most := 2; most < 6; most++ {
			checkError(t, "\x20ab\x02\x00"+behind, most, api.ErrLong)
		}
		checkError(t, "\x20ab\x02\x00\x10z"+behind, 6, api.ErrLong)
	}
	// The byte that is too many stands there, though the literals are not all there.
	checkError(t, "\x50abc", 2, api.ErrLong)
	checkError(t, "\xf0\xff\x00abc", 2, api.ErrLong)
	checkError(t, "\x1fa\x01\x00\x00\xf0", 19, api.ErrLong)
}

// 3.1: data that are wrong ahead of the byte that is too many.
func TestUnpackOfWhatIsWrongAheadOfTooMuch(t *testing.T) {
	checkError(t, "\x50abc", 3, api.ErrForm)
	checkError(t, "\x20a", 1, api.ErrForm)
	checkError(t, "\xf0\xff", 0, api.ErrForm)
	checkError(t, "\xf0\x00", 0, api.ErrForm)
	checkError(t, "\x10a\x00\x00", 1, api.ErrForm)
	checkError(t, "\x10a\x02\x00", 1, api.ErrForm)
	checkError(t, "\x10a\x01", 1, api.ErrForm)
	checkError(t, "\x1fa\x01\x00", 1, api.ErrForm)
	checkError(t, "\x1fa\x01\x00\xff", 1, api.ErrForm)
	checkError(t, "\x1fa\x02\x00\xff\x00", 1, api.ErrForm)
	checkError(t, "\x00\x01\x00", 0, api.ErrForm)
}

func checkAgainstTheText(t *testing.T, b []byte, most int) {
	t.Helper()
	want, wantErrno := decode(b, most)
	got, errno := Unpack(b, most)
	if !bytes.Equal(got, want) || errno != wantErrno {
		t.Fatalf("Unpack(%.60x, %d) = %.60x, %d, the text %.60x, %d", b, most, got, errno, want, wantErrno)
	}
}

// 3.1: all short data of some bytes.
func TestUnpackAgainstTheText(t *testing.T) {
	some := []byte{0x00, 0x01, 0x02, 0x0f, 0x10, 0x21, 0xf0, 0xff}
	all := [][]byte{{}}
	for range 5 {
		var longer [][]byte
		for _, b := range all {
			for most := -1; most < 12; most++ {
				checkAgainstTheText(t, b, most)
			}
			checkAgainstTheText(t, b, 1<<20)
			for _, c := range some {
				longer = append(longer, append(slices.Clone(b), c))
			}
		}
		all = longer
	}
	for _, b := range all {
		checkAgainstTheText(t, b, len(b))
	}
}

// 3.1: packed data that were cut, or turned somewhere.
func TestUnpackOfSpoiltData(t *testing.T) {
	r := rand.New(rand.NewSource(2))
	for range 3000 {
		b := make([]byte, r.Intn(300))
		for i := range b {
			b[i] = byte(r.Intn(1 + r.Intn(4)))
		}
		packed := Pack(b)
		for range r.Intn(3) {
			packed[r.Intn(len(packed))] = []byte{0, 1, 0x0f, 0xf0, 0xff, byte(r.Intn(256))}[r.Intn(6)]
		}
		packed = packed[:len(packed)-r.Intn(min(3, len(packed)))]
		for _, most := range []int{len(b), len(b) - 1, r.Intn(300), 1 << 20} {
			checkAgainstTheText(t, packed, most)
		}
	}
}
