package field

import (
	"bytes"
	"math"
	"math/big"
	"math/rand"
	"slices"
	"strings"
	"sync"
	"testing"

	"matryoshka/api"
)

// digits are the n bytes of v by division, the least significant one first; they are false if v does not fit.
func digits(v uint64, n int) ([]byte, bool) {
	rest, base := new(big.Int).SetUint64(v), big.NewInt(256)
	out := make([]byte, 0, n)
	for range n {
		digit := new(big.Int)
		rest.DivMod(rest, base, digit)
		out = append(out, byte(digit.Uint64()))
	}
	return out, rest.Sign() == 0
}

func encoded(t *testing.T, n int, first bool, v uint64) []byte {
	t.Helper()
	out, fits := digits(v, n)
	if !fits {
		t.Fatalf("%d is not of %d bytes", v, n)
	}
	if first {
		slices.Reverse(out)
	}
	return out
}

// most is the greatest number of n bytes.
func most(n int) uint64 {
	v := uint64(0)
	for range n {
		v = v<<8 | 0xff
	}
	return v
}

// fitting are numbers of n bytes: the edges, each single bit, and some between.
func fitting(n int) []uint64 {
	all := []uint64{0, 1, most(n), most(n) - 1, 0x0102030405060708 & most(n), most(n) / 3}
	for bit := range 8 * n {
		all = append(all, 1<<bit, most(n)^1<<bit)
	}
	return all
}

func inRoom(b []byte) []byte {
	return append(make([]byte, 0, len(b)+100), b...)
}

var notWidths = []int{0, -1, -8, 9, 10, 16, 64, 257, 264, math.MinInt, math.MaxInt, math.MinInt + 1, 1<<32 + 1}

// 2.1
func TestPutOfTheExample(t *testing.T) {
	for _, c := range []struct {
		b    string
		n    int
		big  bool
		v    uint64
		want string
	}{
		{"", 2, true, 258, "\x01\x02"},
		{"", 2, false, 258, "\x02\x01"},
		{"ab", 2, true, 258, "ab\x01\x02"},
		{"ab", 2, false, 258, "ab\x02\x01"},
		{"", 1, true, 0, "\x00"},
		{"", 8, false, 0, "\x00\x00\x00\x00\x00\x00\x00\x00"},
		{"", 3, true, 0x10203, "\x01\x02\x03"},
		{"", 3, false, 0x10203, "\x03\x02\x01"},
		{"x", 8, true, 0x0102030405060708, "x\x01\x02\x03\x04\x05\x06\x07\x08"},
		{"x", 8, false, 0x0102030405060708, "x\x08\x07\x06\x05\x04\x03\x02\x01"},
		{"x", 8, true, math.MaxUint64, "x\xff\xff\xff\xff\xff\xff\xff\xff"},
	} {
		got, errno := Put([]byte(c.b), c.n, c.big, c.v)
		if errno != api.OK || string(got) != c.want {
			t.Errorf("Put(%q, %d, %v, %d) = %q, %d, want %q", c.b, c.n, c.big, c.v, got, errno, c.want)
		}
	}
}

// 2.1
func TestPutOfWhatFits(t *testing.T) {
	for n := 1; n <= 8; n++ {
		for _, v := range fitting(n) {
			for _, first := range []bool{true, false} {
				got, errno := Put([]byte("ahead"), n, first, v)
				want := append([]byte("ahead"), encoded(t, n, first, v)...)
				if errno != api.OK || !bytes.Equal(got, want) {
					t.Errorf("Put(%d, %v, %d) = %x, %d, want %x", n, first, v, got, errno, want)
				}
			}
		}
	}
}

// 2.1, R4
func TestPutOfWhatDoesNotFit(t *testing.T) {
	for n := 1; n <= 7; n++ {
		for _, v := range []uint64{most(n) + 1, most(n) + 2, 2 * (most(n) + 1), 1 << 63, math.MaxUint64} {
			for _, first := range []bool{true, false} {
				if got, errno := Put([]byte("b"), n, first, v); errno != api.ErrRange || len(got) != 0 {
					t.Errorf("Put(%d, %v, %d) = %x, %d", n, first, v, got, errno)
				}
			}
		}
	}
}

// 2.1, R2, R4: the width comes first, whether v would fit or not.
func TestPutInNoSuchWidth(t *testing.T) {
	for _, n := range notWidths {
		for _, v := range []uint64{0, 1, 256, math.MaxUint64} {
			for _, first := range []bool{true, false} {
				if got, errno := Put([]byte("b"), n, first, v); errno != api.ErrArg || len(got) != 0 {
					t.Errorf("Put(%d, %v, %d) = %x, %d", n, first, v, got, errno)
				}
			}
		}
	}
}

// 2.2
func TestGetAtEveryOffset(t *testing.T) {
	for length := range 12 {
		b := make([]byte, length)
		rand.New(rand.NewSource(int64(length))).Read(b)
		for n := 1; n <= 8; n++ {
			for at := -10; at <= length+10; at++ {
				for _, first := range []bool{true, false} {
					checkGet(t, b, at, n, first)
				}
			}
		}
	}
}

// checkGet adds up the weights of the bytes.
func checkGet(t *testing.T, b []byte, at, n int, first bool) {
	t.Helper()
	want, wantErrno := uint64(0), api.ErrRange
	if 0 <= at && at+n <= len(b) {
		wantErrno = api.OK
		weight := uint64(1)
		for i := range n {
			place := at + i
			if first {
				place = at + n - 1 - i
			}
			want += weight * uint64(b[place])
			weight *= 256
		}
	}
	if got, errno := Get(b, at, n, first); got != want || errno != wantErrno {
		t.Errorf("Get(%x, %d, %d, %v) = %d, %d, want %d, %d", b, at, n, first, got, errno, want, wantErrno)
	}
}

// 2.2, R1, R3, R4: sums of such an offset and a width wrap round.
func TestGetFarOutside(t *testing.T) {
	far := []int{math.MinInt, math.MinInt + 1, -1 << 40, -9, -8, -1, 9, 1 << 31, 1 << 32, 1 << 40, math.MaxInt - 8, math.MaxInt - 7, math.MaxInt - 1, math.MaxInt}
	for _, b := range [][]byte{nil, {}, []byte("123456789")} {
		for _, at := range far {
			for n := 1; n <= 8; n++ {
				for _, first := range []bool{true, false} {
					if got, errno := Get(b, at, n, first); errno != api.ErrRange || got != 0 {
						t.Errorf("Get(%q, %d, %d) = %d, %d", b, at, n, got, errno)
					}
				}
			}
		}
	}
}

// 2.2: what lies behind the length, within the capacity, is not contained.
func TestGetInTheSpareCapacity(t *testing.T) {
	b := append(make([]byte, 0, 64), "0123456789"...)[:5]
	for n := 1; n <= 8; n++ {
		for at := 5 - n + 1; at < 20; at++ {
			if got, errno := Get(b, at, n, true); errno != api.ErrRange || got != 0 {
				t.Errorf("Get(%d, %d) = %d, %d", at, n, got, errno)
			}
		}
	}
}

// 2.2, R2, R4: the width comes first, whether the offset is one or not.
func TestGetInNoSuchWidth(t *testing.T) {
	for _, n := range notWidths {
		for _, at := range []int{-1, 0, 1, 3, 4, 99, math.MinInt, math.MaxInt} {
			for _, first := range []bool{true, false} {
				if got, errno := Get([]byte("abc"), at, n, first); errno != api.ErrArg || got != 0 {
					t.Errorf("Get(%d, %d) = %d, %d", at, n, got, errno)
				}
			}
		}
	}
}

var texts = []string{
	"", "a", "ab", "name", "\x00", "\x00\x00", "\xff\xfe", "Hülle", "\xc3\x28 no letters \x80\xed\xa0\x80", "\u65e5\u672c", "line\nline\r\t",
	strings.Repeat("x", 255), strings.Repeat("x", 256), strings.Repeat("\xff", 257),
	strings.Repeat("y", 32768), strings.Repeat("z", 65534), strings.Repeat("\x00", 65535),
}

// 2.3
func TestTextOfWhatFits(t *testing.T) {
	for _, s := range texts {
		for _, b := range []string{"", "ahead"} {
			got, errno := Text([]byte(b), s)
			want := b + string([]byte{byte(len(s) % 256), byte(len(s) / 256)}) + s
			if errno != api.OK || string(got) != want {
				t.Errorf("Text(%q, %d bytes): %d, %d bytes", b, len(s), errno, len(got))
			}
		}
	}
}

// 2.3
func TestTextIsWhatPutEncodes(t *testing.T) {
	for _, s := range texts {
		length, _ := Put([]byte("b"), 2, false, uint64(len(s)))
		if got, errno := Text([]byte("b"), s); errno != api.OK || !bytes.Equal(got, append(length, s...)) {
			t.Errorf("Text of %d bytes: %d", len(s), errno)
		}
	}
}

// 2.3, R4
func TestTextThatIsTooLong(t *testing.T) {
	for _, length := range []int{65536, 65537, 65536 + 255, 2 * 65536, 1 << 20} {
		for _, b := range []string{"", "ahead"} {
			if got, errno := Text([]byte(b), strings.Repeat("l", length)); errno != api.ErrLong || len(got) != 0 {
				t.Errorf("Text of %d bytes: %d, %d bytes", length, errno, len(got))
			}
		}
	}
}

// 2.4
func TestReadOfAWholeEncoding(t *testing.T) {
	for _, c := range []struct {
		b      string
		at     int
		want   string
		behind int
	}{
		{"\x00\x00", 0, "", 2},
		{"\x01\x00a", 0, "a", 3},
		{"\x01\x00ab", 0, "a", 3},
		{"\x01\x00\x00\x00", 2, "", 4},
		{"\x01\x00\x00\x00", 1, "", 3},
		{"zz\x03\x00abcd", 2, "abc", 7},
		{"\x02\x00\xff\x00", 0, "\xff\x00", 4},
	} {
		if got, behind, errno := Read([]byte(c.b), c.at); got != c.want || behind != c.behind || errno != api.OK {
			t.Errorf("Read(%q, %d) = %q, %d, %d", c.b, c.at, got, behind, errno)
		}
	}
	for _, length := range []int{255, 256, 0x1234, 65535} {
		b := append([]byte{'b', byte(length % 256), byte(length / 256)}, bytes.Repeat([]byte("s"), length)...)
		if got, behind, errno := Read(b, 1); got != strings.Repeat("s", length) || behind != len(b) || errno != api.OK {
			t.Errorf("Read of %d bytes: %d bytes, %d, %d", length, len(got), behind, errno)
		}
	}
}

func checkNoText(t *testing.T, b []byte, at int) {
	t.Helper()
	if got, behind, errno := Read(b, at); got != "" || behind != 0 || errno != api.ErrRange {
		t.Errorf("Read(%d bytes, %d) = %d bytes, %d, %d", len(b), at, len(got), behind, errno)
	}
}

// 2.4, R4
func TestReadOfWhatEndsTooEarly(t *testing.T) {
	for _, s := range []string{"", "a", "abc", strings.Repeat("s", 300), strings.Repeat("s", 65535)} {
		whole, _ := Text([]byte("ahead"), s)
		for _, missing := range []int{1, 2, 3, len(s), len(s) + 1, len(s) + 2} {
			if 0 < missing && missing <= len(s)+2 {
				cut := whole[:len(whole)-missing]
				checkNoText(t, slices.Clone(cut), 5)
				// With the rest in the spare capacity.
				checkNoText(t, cut, 5)
			}
		}
	}
}

// 2.4, R1, R3, R4
func TestReadOutside(t *testing.T) {
	for _, at := range []int{math.MinInt, math.MinInt + 1, -65537, -3, -2, -1, 9, 10, 11, 1 << 32, math.MaxInt - 65536, math.MaxInt - 2, math.MaxInt - 1, math.MaxInt} {
		checkNoText(t, make([]byte, 10), at)
		checkNoText(t, bytes.Repeat([]byte{0xff}, 10), at)
	}
	for _, at := range []int{-1, 0, 1} {
		checkNoText(t, nil, at)
		checkNoText(t, []byte{}, at)
		checkNoText(t, []byte{0}, at)
	}
}

// 2.5
func TestGetReturnsWhatPutHasEncoded(t *testing.T) {
	for n := 1; n <= 8; n++ {
		for _, v := range fitting(n) {
			for _, ahead := range []string{"", "\xff", "some bytes ahead"} {
				for _, first := range []bool{true, false} {
					b, _ := Put([]byte(ahead), n, first, v)
					for _, behind := range []string{"", "\x00", "\xff\xff\xff\xff\xff\xff\xff\xff"} {
						got, errno := Get(append(slices.Clone(b), behind...), len(ahead), n, first)
						if got != v || errno != api.OK {
							t.Fatalf("%d in %d bytes is %d, %d", v, n, got, errno)
						}
					}
				}
			}
		}
	}
}

// 2.5
func TestReadReturnsWhatTextHasEncoded(t *testing.T) {
	for _, s := range texts {
		for _, ahead := range []string{"", "\xff", "some bytes ahead"} {
			b, _ := Text([]byte(ahead), s)
			for _, behind := range []string{"", "\x00", "\xff\xff\xff"} {
				got, end, errno := Read(append(slices.Clone(b), behind...), len(ahead))
				if got != s || end != len(b) || errno != api.OK {
					t.Fatalf("a text of %d bytes is of %d, %d, %d", len(s), len(got), end, errno)
				}
			}
		}
	}
}

// 2.5
func TestFieldsOneBehindTheOther(t *testing.T) {
	var b []byte
	for i, s := range texts {
		b, _ = Put(b, 1+i%8, i%2 == 0, uint64(i))
		b, _ = Text(b, s)
	}
	at := 0
	for i, s := range texts {
		if v, errno := Get(b, at, 1+i%8, i%2 == 0); v != uint64(i) || errno != api.OK {
			t.Fatalf("number %d is %d, %d", i, v, errno)
		}
		got, behind, errno := Read(b, at+1+i%8)
		if got != s || errno != api.OK {
			t.Fatalf("text %d: %d", i, errno)
		}
		at = behind
	}
	if at != len(b) {
		t.Errorf("%d of %d bytes", at, len(b))
	}
}

// R3
func TestArgumentsAreNotChanged(t *testing.T) {
	for _, given := range []string{"", "\x02\x00abcdefgh"} {
		room := append(inRoom([]byte(given)), "behind the length"...)
		b, before := room[:len(given)], slices.Clone(room)
		Put(b, 8, true, math.MaxUint64)
		Put(b, 1, true, 256)
		Put(b, 9, true, 0)
		Get(b, 0, 8, true)
		Text(b, "text")
		Text(b, strings.Repeat("l", 65536))
		Read(b, 0)
		if !bytes.Equal(room, before) {
			t.Errorf("%q was changed to %q", before, room)
		}
	}
}

// scribble writes over all of a list, and into its spare capacity.
func scribble(b []byte) {
	b = b[:cap(b)]
	for i := range b {
		b[i] = '#'
	}
}

// R3
func TestResultsAreNewMemory(t *testing.T) {
	for _, given := range []string{"", "given"} {
		b := inRoom([]byte(given))
		number, _ := Put(b, 2, true, 258)
		other, _ := Put(b, 2, true, 772)
		text, _ := Text(b, "text")
		empty, _ := Text(b, "")
		read, _, _ := Read(text, len(given))
		scribble(number)
		scribble(b)
		if string(other) != given+"\x03\x04" || string(text) != given+"\x04\x00text" || string(empty) != given+"\x00\x00" {
			t.Errorf("%q, %q, %q", other, text, empty)
		}
		scribble(text)
		if read != "text" || string(other) != given+"\x03\x04" || string(empty) != given+"\x00\x00" {
			t.Errorf("%q, %q, %q", read, other, empty)
		}
	}
}

// R3
func TestNilAndEmptyAreEquivalent(t *testing.T) {
	for _, b := range [][]byte{nil, {}, make([]byte, 0, 20)} {
		if got, errno := Put(b, 2, false, 258); errno != api.OK || string(got) != "\x02\x01" {
			t.Errorf("Put: %q, %d", got, errno)
		}
		if got, errno := Text(b, "ab"); errno != api.OK || string(got) != "\x02\x00ab" {
			t.Errorf("Text: %q, %d", got, errno)
		}
		if got, errno := Get(b, 0, 1, false); errno != api.ErrRange || got != 0 {
			t.Errorf("Get: %d, %d", got, errno)
		}
		checkNoText(t, b, 0)
	}
}

// R1 and R5: the same calls have the same results, whatever runs beside them.
func TestCallsShareNothing(t *testing.T) {
	b := append(make([]byte, 0, 200), "shared"...)
	var all sync.WaitGroup
	for k := range 8 {
		all.Go(func() {
			for i := range 200 {
				v := uint64(k*1000 + i)
				number, _ := Put(b, 4, true, v)
				text, _ := Text(number, strings.Repeat("s", i))
				got, _ := Get(text, 6, 4, true)
				read, behind, _ := Read(text, 10)
				_, _, errno := Read(text, 11+i+k)
				if got != v || len(read) != i || behind != 12+i || string(text[:6]) != "shared" || errno != api.ErrRange {
					t.Error("another result")
				}
			}
		})
	}
	all.Wait()
}
