package lz

import "matryoshka/api"

// unpacking is what is left of the compressed data, and what they have put out up to there.
type unpacking struct {
	rest []byte
	out  []byte
	most int
}

// Unpack is the output of the compressed data b, of at most so many bytes.
func Unpack(b []byte, most int) ([]byte, api.Errno) {
	if most < 0 || most > mostOutput {
		return nil, api.ErrArg
	}
	if len(b) == 0 {
		return nil, api.ErrForm
	}
	u := unpacking{rest: b, most: most}
	length := u.lengths()
	for len(u.rest) > 0 {
		if errno := u.sequence(length); errno != api.OK {
			return nil, errno
		}
	}
	return u.out, api.OK
}

// sequence decodes the next sequence, which has a token at least.
func (u *unpacking) sequence(length func(half byte) (int, bool)) api.Errno {
	token := u.rest[0]
	u.rest = u.rest[1:]
	literals, ok := length(token >> halfBits)
	if !ok {
		return api.ErrForm
	}
	if errno := u.literals(literals); errno != api.OK {
		return errno
	}
	if len(u.rest) == 0 {
		return api.OK
	}
	distance, ok := u.distance()
	if !ok {
		return api.ErrForm
	}
	added, ok := length(token & fullHalf)
	if !ok {
		return api.ErrForm
	}
	return u.copies(distance, added+leastCopy)
}

// lengths makes what reads a length: half of a token, and the bytes of the rest that are added to it. It is false if
// the rest ends among them.
func (u *unpacking) lengths() func(half byte) (int, bool) {
	return func(half byte) (int, bool) {
		n := int(half)
		for more := half == fullHalf; more; {
			if len(u.rest) == 0 {
				return 0, false
			}
			n += int(u.rest[0])
			more = u.rest[0] == fullByte
			u.rest = u.rest[1:]
		}
		return n, true
	}
}

// literals puts out the first n bytes of the rest.
func (u *unpacking) literals(n int) api.Errno {
	present := min(n, len(u.rest))
	// A byte that is too many and stands in the rest is met ahead of the rest's end.
	if present > u.room() {
		return api.ErrLong
	}
	if present < n {
		return api.ErrForm
	}
	u.out = append(u.out, u.rest[:n]...)
	u.rest = u.rest[n:]
	return api.OK
}

// distance reads a distance; it is false if it is not whole, or leads to no byte of the output.
func (u *unpacking) distance() (int, bool) {
	if len(u.rest) < distanceBytes {
		return 0, false
	}
	distance := int(u.rest[0]) | int(u.rest[1])<<byteBits
	u.rest = u.rest[distanceBytes:]
	return distance, 0 < distance && distance <= len(u.out)
}

// copies puts out n bytes, each of which is the one that stands this distance before it.
func (u *unpacking) copies(distance, n int) api.Errno {
	if n > u.room() {
		return api.ErrLong
	}
	for range n {
		u.out = append(u.out, u.out[len(u.out)-distance])
	}
	return api.OK
}

// room is how many bytes may still be put out.
func (u *unpacking) room() int {
	return u.most - len(u.out)
}
