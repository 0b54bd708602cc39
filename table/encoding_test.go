package table

import (
	"bytes"
	"math"
	"math/rand"
	"slices"
	"testing"

	"matryoshka/api"
)

// bytesOf are the numbers of an entry by division, the least significant byte first.
func bytesOf(e api.Entry) []byte {
	b := []byte{byte(e.Kind), 0, byte(e.Count % 256), byte(e.Count / 256)}
	for _, n := range []int{e.Start, e.Size, int(e.Sum)} {
		for range 4 {
			b = append(b, byte(n%256))
			n /= 256
		}
	}
	return b
}

func twoBytes(n int) []byte {
	return []byte{byte(n % 256), byte(n / 256)}
}

// encodedLeaf is the number of a leaf and its entries.
func encodedLeaf(number int, leaf []api.Entry) []byte {
	b := twoBytes(number)
	for _, e := range leaf {
		b = append(b, bytesOf(e)...)
	}
	return b
}

// encoded are these leaves behind their number.
func encoded(of ...[]byte) []byte {
	return append(twoBytes(len(of)), bytes.Join(of, nil)...)
}

// encodingOf is the encoding of a table.
func encodingOf(x api.Table) []byte {
	var of [][]byte
	for number, leaf := range x.L {
		if len(leaf) > 0 {
			of = append(of, encodedLeaf(number, leaf))
		}
	}
	return encoded(of...)
}

func checkPut(t *testing.T, x api.Table, cluster int, want []byte) {
	t.Helper()
	if got, errno := Put(x, cluster); errno != api.OK || !bytes.Equal(got, want) {
		t.Errorf("Put(%v, %d) = %x, %d, want %x", x, cluster, got, errno, want)
	}
}

func checkNotPut(t *testing.T, x api.Table, cluster int) {
	t.Helper()
	if got, errno := Put(x, cluster); errno != api.ErrArg || len(got) != 0 {
		t.Errorf("Put(%v, %d) = %x, %d", x, cluster, got, errno)
	}
}

func checkRead(t *testing.T, b []byte, at, n, cluster int, want api.Table, behind int) {
	t.Helper()
	if got, end, errno := Read(b, at, n, cluster); errno != api.OK || end != behind || !same(got, want) {
		t.Errorf("Read(%x, %d, %d, %d) = %v, %d, %d, want %v, %d", b, at, n, cluster, got, end, errno, want, behind)
	}
}

func checkNoTable(t *testing.T, b []byte, at, n, cluster int) {
	t.Helper()
	if got, end, errno := Read(b, at, n, cluster); errno != api.ErrForm || end != 0 || len(got.L) != 0 {
		t.Errorf("Read(%x, %d, %d, %d) = %v, %d, %d", b, at, n, cluster, got, end, errno)
	}
}

const blankEntry = "\x00\x00\x00\x00\x00\x00\x00\x00\x00\x00\x00\x00\x00\x00\x00\x00"

const zeroEntry = "\x01\x00\x00\x00\x00\x00\x00\x00\x00\x00\x00\x00\x00\x00\x00\x00"

var encodings = []struct {
	of      entries
	cluster int
	b       string
}{
	{nil, 3, "\x00\x00"},
	{entries{0: zero}, 0, "\x01\x00" + "\x00\x00" + zeroEntry + blankEntry + blankEntry + blankEntry + blankEntry + blankEntry + blankEntry + blankEntry},
	{entries{7: zero}, 6, "\x01\x00" + "\x00\x00" + blankEntry + blankEntry + blankEntry + blankEntry + blankEntry + blankEntry + blankEntry + zeroEntry},
	{entries{9: zero}, 2, "\x01\x00" + "\x01\x00" + blankEntry + zeroEntry + blankEntry + blankEntry + blankEntry + blankEntry + blankEntry + blankEntry},
	{entries{4095: {Kind: 2, Start: 0x1234, Count: 64, Sum: 0xa1b2c3d4}}, 6,
		"\x01\x00" + "\xff\x01" + blankEntry + blankEntry + blankEntry + blankEntry + blankEntry + blankEntry + blankEntry + "\x02\x00\x40\x00\x34\x12\x00\x00\x00\x00\x00\x00\xd4\xc3\xb2\xa1"},
	{entries{2: zero, 3: {Kind: 3, Start: 0x5678, Count: 3, Size: 47, Sum: 5}, 2304: {Kind: 2, Start: 65532, Count: 4}}, 2,
		"\x02\x00" + "\x00\x00" + blankEntry + blankEntry + zeroEntry + "\x03\x00\x03\x00\x78\x56\x00\x00\x2f\x00\x00\x00\x05\x00\x00\x00" + blankEntry + blankEntry + blankEntry + blankEntry +
			"\x20\x01" + "\x02\x00\x04\x00\xfc\xff\x00\x00\x00\x00\x00\x00\x00\x00\x00\x00" + blankEntry + blankEntry + blankEntry + blankEntry + blankEntry + blankEntry + blankEntry},
}

// someTables are valid for clusters of this size.
func someTables(cluster int) []entries {
	random := rand.New(rand.NewSource(int64(cluster)))
	all := []entries{{}, {0: zero}, {4095: zero}, {3: someEntry(cluster, 1), 90: someEntry(cluster, 2)}, fullTable(17, cluster)}
	for range 20 {
		all = append(all, someEntries(random, 12, 100, cluster), someEntries(random, 12, 4096, cluster))
	}
	return all
}

// 8.3
func TestPutByteByByte(t *testing.T) {
	for _, c := range encodings {
		checkPut(t, tableOf(c.of), c.cluster, []byte(c.b))
	}
	checkPut(t, leaves([]api.Entry{}, make([]api.Entry, 0, 8), leafOf(zero)), 0, []byte("\x01\x00\x02\x00"+zeroEntry+blankEntry+blankEntry+blankEntry+blankEntry+blankEntry+blankEntry+blankEntry))
	checkPut(t, leaves(), 6, []byte{0, 0})
}

// 8.3
func TestPutOfValidTables(t *testing.T) {
	for cluster := range 7 {
		for _, of := range someTables(cluster) {
			checkPut(t, tableOf(of), cluster, encodingOf(tableOf(of)))
		}
	}
}

// 8.3: absent leaves ahead of the others and among them, up to the greatest number.
func TestPutOfAbsentLeaves(t *testing.T) {
	for number := range 512 {
		x := tableOf(entries{number*8 + number%8: zero})
		checkPut(t, x, 1, encoded(encodedLeaf(number, x.L[number])))
		x = tableOf(entries{number * 8: raw(9, 2), 4095: zero})
		if number < 511 {
			checkPut(t, x, 1, encoded(encodedLeaf(number, x.L[number]), encodedLeaf(511, x.L[511])))
		}
	}
}

// 8.3, 8.4: as many leaves as there can be.
func TestTheGreatestTable(t *testing.T) {
	for cluster := range 7 {
		x := tableOf(fullTable(4096, cluster))
		b := encodingOf(x)
		if len(b) != 2+512*130 {
			t.Fatal("not the encoding that is meant")
		}
		checkPut(t, x, cluster, b)
		checkRead(t, b, 0, 4096, cluster, x, len(b))
		checkNoTable(t, b, 0, 4095, cluster)
		checkNoTable(t, b[:len(b)-1], 0, 4096, cluster)
	}
}

// 8.3, R4: ErrArg just where the table is not valid for MaxDisk clusters.
func TestPutOfWhatIsNotValid(t *testing.T) {
	for _, x := range noTables() {
		for cluster := -1; cluster <= 7; cluster++ {
			checkNotPut(t, x, cluster)
		}
	}
	for _, of := range []entries{{}, {0: zero}, {9: raw(2, 1)}, {9: raw(2, 64)}, {9: raw(2, 128)}} {
		for _, cluster := range noClusters {
			checkNotPut(t, tableOf(of), cluster)
		}
	}
	for cluster := range 7 {
		for _, of := range someTables(cluster) {
			for other := range 7 {
				if of.validFor(other) {
					checkPut(t, tableOf(of), other, encodingOf(tableOf(of)))
				} else {
					checkNotPut(t, tableOf(of), other)
				}
			}
		}
	}
}

// 8.4
func TestReadByteByByte(t *testing.T) {
	for _, c := range encodings {
		checkRead(t, []byte(c.b), 0, 4096, c.cluster, tableOf(c.of), len(c.b))
	}
}

// 8.4, 8.5: whatever stands ahead of it and behind it.
func TestReadOfWhatPutReturned(t *testing.T) {
	for cluster := range 7 {
		for _, of := range someTables(cluster) {
			x := tableOf(of)
			b, errno := Put(x, cluster)
			if errno != api.OK {
				t.Fatalf("Put(%v, %d): %d", x, cluster, errno)
			}
			for _, ahead := range []string{"", "\x00", "\xff\xff\xff", "\x01\x00\x00\x00", string(b)} {
				for _, behind := range []string{"", "\x00", "\xff\xff", string(b)} {
					checkRead(t, []byte(ahead+string(b)+behind), len(ahead), 4096, cluster, x, len(ahead)+len(b))
				}
			}
		}
	}
}

// 8.4: tables one behind the other.
func TestReadOfSeveralTables(t *testing.T) {
	var b []byte
	for _, of := range someTables(3) {
		b = append(b, encodingOf(tableOf(of))...)
	}
	at := 0
	for _, of := range someTables(3) {
		length := len(encodingOf(tableOf(of)))
		checkRead(t, b, at, 4096, 3, tableOf(of), at+length)
		at += length
	}
	checkNoTable(t, b, at, 4096, 3)
}

// 8.4, R4
func TestReadOfWhatEndsTooEarly(t *testing.T) {
	for _, c := range encodings {
		for _, ahead := range []string{"", "ahead"} {
			whole := []byte(ahead + c.b)
			for length := range len(whole) {
				// What stands in the spare capacity does not count.
				checkNoTable(t, whole[:length], len(ahead), 4096, c.cluster)
				checkNoTable(t, slices.Clone(whole[:length]), len(ahead), 4096, c.cluster)
			}
		}
	}
}

// 8.4: more leaves than there are bytes for, and fewer, which are a table that ends earlier.
func TestReadOfAnotherCountOfLeaves(t *testing.T) {
	x := tableOf(entries{2: zero, 20: raw(2, 4), 800: zero})
	b := encodingOf(x)
	for count := range 1 << 16 {
		copy(b, twoBytes(count))
		switch count {
		case 0:
			checkRead(t, b, 0, 4096, 2, api.Table{}, 2)
		case 1:
			checkRead(t, b, 0, 4096, 2, tableOf(entries{2: zero}), 132)
		case 2:
			checkRead(t, b, 0, 4096, 2, tableOf(entries{2: zero, 20: raw(2, 4)}), 262)
		case 3:
			checkRead(t, b, 0, 4096, 2, x, 392)
		default:
			checkNoTable(t, b, 0, 4096, 2)
		}
	}
}

// 8.4, R1, R4
func TestReadOutside(t *testing.T) {
	for _, c := range encodings {
		b := []byte(c.b)
		for _, at := range []int{len(b) - 1, len(b), len(b) + 1, len(b) + 2, len(b) + 131} {
			checkNoTable(t, b, at, 4096, c.cluster)
			checkNoTable(t, append(slices.Clone(b), c.b...)[:len(b)], at, 4096, c.cluster)
		}
		for _, at := range slices.Concat(farBelow, farBeyond) {
			checkNoTable(t, b, at, 4096, c.cluster)
			checkNoTable(t, make([]byte, 100), at, 4096, c.cluster)
			checkNoTable(t, slices.Repeat([]byte{0xff}, 100), at, 4096, c.cluster)
			checkNoTable(t, nil, at, 4096, c.cluster)
		}
	}
	for _, b := range [][]byte{nil, {}, make([]byte, 0, 2), {0}} {
		for at := -3; at < 4; at++ {
			checkNoTable(t, b, at, 0, 0)
		}
	}
}

// 8.4
func TestReadOfLeafNumbersThatDoNotAscend(t *testing.T) {
	leaf := leafOf(none, zero)
	for _, numbers := range [][]int{
		{0, 0}, {5, 5}, {1, 0}, {5, 4}, {511, 510}, {511, 511}, {511, 0}, {0, 1, 1}, {0, 0, 1}, {0, 2, 1}, {2, 0, 1}, {3, 2, 1}, {0, 5, 0}, {256, 1}, {255, 256, 255}, {1, 2, 3, 4, 4}, {1, 2, 3, 5, 4},
	} {
		var of [][]byte
		for _, number := range numbers {
			of = append(of, encodedLeaf(number, leaf))
		}
		for n := range 4096 {
			if n%64 == 0 {
				checkNoTable(t, encoded(of...), 0, n, 0)
			}
		}
		checkNoTable(t, encoded(of...), 0, 4096, 0)
		slices.Sort(numbers)
		x, all := entries{}, [][]byte{}
		for _, number := range slices.Compact(numbers) {
			x[number*8+1] = zero
			all = append(all, encodedLeaf(number, leaf))
		}
		checkRead(t, encoded(all...), 0, 4096, 0, tableOf(x), 2+130*len(all))
	}
}

// 8.4
func TestReadOfEachLeafNumber(t *testing.T) {
	for number := range 1 << 16 {
		b := encoded(encodedLeaf(number, leafOf(zero)))
		if number < 512 {
			checkRead(t, b, 0, 4096, 4, tableOf(entries{number * 8: zero}), 132)
			continue
		}
		checkNoTable(t, b, 0, 4096, 4)
		if number%256 < 2 || number > 65500 {
			checkNoTable(t, encoded(encodedLeaf(3, leafOf(zero)), encodedLeaf(number, leafOf(zero))), 0, 4096, 4)
			checkNoTable(t, encoded(encodedLeaf(number, leafOf(zero)), encodedLeaf(3, leafOf(zero))), 0, 4096, 4)
		}
	}
}

// 8.4: all numbers that there are in two bytes, and more.
func TestReadOfAllLeafNumbers(t *testing.T) {
	var of [][]byte
	for number := range 1<<16 - 1 {
		of = append(of, encodedLeaf(number, leafOf(zero)))
	}
	checkNoTable(t, encoded(of...), 0, 4096, 4)
	checkNoTable(t, encoded(of[:513]...), 0, 4096, 4)
	if got, behind, errno := Read(encoded(of[:512]...), 0, 4096, 4); errno != api.OK || behind != 2+512*130 || len(got.L) != 512 {
		t.Errorf("%d, %d", behind, errno)
	}
}

// 8.4: a leaf whose entries are all EntryNone.
func TestReadOfABlankLeaf(t *testing.T) {
	blank, other := leafOf(), leafOf(zero)
	for _, n := range []int{0, 1, 8, 16, 24, 4095, 4096} {
		checkNoTable(t, encoded(encodedLeaf(0, blank)), 0, n, 3)
		checkNoTable(t, encoded(encodedLeaf(5, blank)), 0, n, 3)
		checkNoTable(t, encoded(encodedLeaf(0, blank), encodedLeaf(1, other)), 0, n, 3)
		checkNoTable(t, encoded(encodedLeaf(0, other), encodedLeaf(1, blank)), 0, n, 3)
		checkNoTable(t, encoded(encodedLeaf(0, other), encodedLeaf(1, blank), encodedLeaf(2, other)), 0, n, 3)
	}
}

// 8.4: at each place of a leaf and in each leaf.
func TestReadOfAnEntryThatIsNotValid(t *testing.T) {
	for cluster := range 7 {
		for place := range 24 {
			of := fullTable(24, cluster)
			checkRead(t, encodingOf(tableOf(of)), 0, 24, cluster, tableOf(of), 2+3*130)
			from := 2 + place/8*130 + 2 + place%8*16
			for _, e := range append(slices.Clone(noEntries), raw(2, sectors(cluster)*2), packed(2, sectors(cluster), sectors(cluster)*16)) {
				if e.Kind < 0 || e.Kind > 255 || e.Start == math.MaxInt {
					continue
				}
				b := encodingOf(tableOf(of))
				copy(b[from:], bytesOf(e))
				checkNoTable(t, b, 0, 24, cluster)
				checkNoTable(t, b, 0, 4096, cluster)
			}
			b := encodingOf(tableOf(of))
			b[from+1] = 1
			checkNoTable(t, b, 0, 4096, cluster)
		}
	}
}

// 8.4: a table is read where it is valid for n clusters of that size.
func TestReadForEachNumberOfClusters(t *testing.T) {
	for _, of := range []entries{{}, {0: zero}, {7: zero}, {8: zero}, {3: raw(2, 8), 1000: zero}, {4095: zero}, fullTable(33, 3)} {
		x := tableOf(of)
		b := encodingOf(x)
		for n := range 4097 {
			if n >= of.behind() {
				checkRead(t, b, 0, n, 3, x, len(b))
			} else {
				checkNoTable(t, b, 0, n, 3)
			}
		}
		for _, n := range slices.Concat(farBelow, farBeyond[1:]) {
			checkNoTable(t, b, 0, n, 3)
		}
		for _, cluster := range noClusters {
			checkNoTable(t, b, 0, 4096, cluster)
		}
		for cluster := range 7 {
			if of.validFor(cluster) {
				checkRead(t, b, 0, 4096, cluster, x, len(b))
			} else {
				checkNoTable(t, b, 0, 4096, cluster)
			}
		}
	}
}

// 8.4: whatever the bytes, Read has the table whose encoding they are, or there is none.
func TestReadOfOneBitTurned(t *testing.T) {
	for _, c := range encodings {
		for bit := range len(c.b) * 8 {
			b := []byte(c.b)
			b[bit/8] ^= 1 << (bit % 8)
			x, behind, errno := Read(b, 0, 4096, c.cluster)
			if errno != api.OK {
				checkNoTable(t, b, 0, 4096, c.cluster)
				continue
			}
			checkRight(t, x, 4096, c.cluster, true)
			checkPut(t, x, c.cluster, b[:behind])
			if behind == len(b) && same(x, tableOf(c.of)) {
				t.Errorf("Read(%x) = %v, as without bit %d", b, x, bit)
			}
		}
	}
}

// 8.4: leaves with these numbers and entries, in any order, are a table or none.
func TestReadOfAnyLeaves(t *testing.T) {
	random := rand.New(rand.NewSource(84))
	found := 0
	for round := range 20000 {
		ascend, of, all, before := true, entries{}, [][]byte{}, -1
		for range random.Intn(4) {
			number, leaf := random.Intn(12), leafOf()
			for range random.Intn(8) {
				leaf[random.Intn(8)] = someEntry(random.Intn(8)/7+2, random.Intn(1<<16))
			}
			ascend = ascend && number > before && !slices.Equal(leaf, leafOf())
			before = number
			for i, e := range leaf {
				of[number*8+i] = e
			}
			all = append(all, encodedLeaf(number, leaf))
		}
		n, b := random.Intn(100), encoded(all...)
		if ascend && of.validFor(2) && of.behind() <= n {
			found++
			checkRead(t, b, 0, n, 2, tableOf(of), len(b))
		} else {
			checkNoTable(t, b, 0, n, 2)
		}
		if t.Failed() {
			t.Fatalf("round %d", round)
		}
	}
	if found < 1000 || found > 19000 {
		t.Errorf("%d tables", found)
	}
}
