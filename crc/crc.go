// Package crc: CRC-32C checksums and 64-bit fingerprints. See DOC.md, chapter 1.
package crc

import "sync"

const (
	polynomial   uint32 = 0x82f63b78
	fingerStart  uint64 = 0xcbf29ce484222325
	fingerFactor uint64 = 0x100000001b3
)

const (
	halfByte  = 4
	halfBytes = 1 << halfByte
)

// steps is, for each half byte that is shifted out of the register, what the rest of it is turned by.
type steps [halfBytes]uint32

// Sum is the CRC-32C checksum of b.
func Sum(b []byte) uint32 {
	// The register whose bits are all set is the complement of 0.
	return More(0, b)
}

// More goes on with a checksum: if sum is Sum(a), it is the checksum of a followed by b.
func More(sum uint32, b []byte) uint32 {
	// The table belongs to this call alone, so that calls share nothing; without bytes none is built.
	var once sync.Once
	var table steps
	build := func() { table = makeSteps() }
	register := ^sum
	for _, c := range b {
		once.Do(build)
		register ^= uint32(c)
		register = table.next(register)
		register = table.next(register)
	}
	return ^register
}

// Finger is a 64-bit fingerprint of b.
func Finger(b []byte) uint64 {
	h := fingerStart
	for _, c := range b {
		h ^= uint64(c)
		h *= fingerFactor
	}
	return h ^ h>>32
}

// next shifts a half byte out of the register.
func (t *steps) next(register uint32) uint32 {
	return register>>halfByte ^ t[register%halfBytes]
}

func makeSteps() steps {
	var t steps
	for low := range t {
		t[low] = shifted(uint32(low), halfByte)
	}
	return t
}

// shifted is the register after as many single bits were shifted out of it.
func shifted(register uint32, bits int) uint32 {
	for range bits {
		lowest := register & 1
		register >>= 1
		if lowest == 1 {
			register ^= polynomial
		}
	}
	return register
}
