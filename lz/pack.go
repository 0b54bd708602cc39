package lz

// offsets are where four bytes were last seen.
type offsets map[[leastCopy]byte]int

// Pack is compressed data whose output is b; they are empty if b is too long.
func Pack(b []byte) []byte {
	if len(b) > mostOutput {
		return nil
	}
	var out []byte
	seen := make(offsets)
	literal, at := 0, 0
	for at+leastCopy <= len(b) {
		from, ok := seen.swap(b, at)
		if !ok || at-from > mostDistance {
			at++
			continue
		}
		n := equalBytes(b, from, at)
		out = appendSequence(out, b[literal:at], at-from, n)
		seen.note(b, at+1, at+n)
		at += n
		literal = at
	}
	// Without a sequence they would be no compressed data.
	if literal < len(b) || len(out) == 0 {
		out = appendLiterals(out, b[literal:], 0)
	}
	return out
}

// swap notes the offset of the four bytes of b that stand at one, and tells where they were last seen before.
func (seen offsets) swap(b []byte, at int) (int, bool) {
	four := [leastCopy]byte{b[at], b[at+1], b[at+2], b[at+3]}
	before, ok := seen[four]
	seen[four] = at
	return before, ok
}

// note notes the offsets from one on, below another, where four bytes stand.
func (seen offsets) note(b []byte, from, to int) {
	for at := from; at < min(to, len(b)-leastCopy+1); at++ {
		seen.swap(b, at)
	}
}

// equalBytes is how many bytes of b from one offset on are those from another, later one on.
func equalBytes(b []byte, from, at int) int {
	n := 0
	for at+n < len(b) && b[from+n] == b[at+n] {
		n++
	}
	return n
}

// appendSequence appends a sequence that outputs literals, and then copies n bytes.
func appendSequence(out, literals []byte, distance, n int) []byte {
	out = appendLiterals(out, literals, n-leastCopy)
	out = append(out, byte(distance), byte(distance>>byteBits))
	return appendAdded(out, n-leastCopy)
}

// appendLiterals appends a sequence up to its literals; low is the length of which its token has the low half.
func appendLiterals(out, literals []byte, low int) []byte {
	out = append(out, half(len(literals))<<halfBits|half(low))
	out = appendAdded(out, len(literals))
	return append(out, literals...)
}

// half is what half of a token tells of a length.
func half(length int) byte {
	return byte(min(length, fullHalf))
}

// appendAdded appends the bytes that are added to the half of a token that tells a length.
func appendAdded(out []byte, length int) []byte {
	rest := length - fullHalf
	if rest < 0 {
		return out
	}
	for ; rest >= fullByte; rest -= fullByte {
		out = append(out, fullByte)
	}
	return append(out, byte(rest))
}
