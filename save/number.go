package save

import "math/bits"

// longSize is how many bytes a long has; tagSize and partHead, how many a part's tag has, and what stands ahead of its values.
const (
	longSize = 4
	tagSize  = 1
	partHead = tagSize + longSize
)

// number is what values of so many bytes are.
type number interface {
	uint8 | uint16 | uint32 | uint64
}

// size is how many bytes a kind of numbers has.
func size[N number]() int { return bits.Len64(uint64(^N(0))) / 8 }

// lay lays a number at a list's beginning, its lowest byte first.
func lay[N number](b []uint8, n N) {
	for i := range size[N]() {
		b[i] = uint8(n >> (8 * i))
	}
}

// join is the number at a list's beginning.
func join[N number](b []uint8) N {
	var n N
	for i := range size[N]() {
		n |= N(b[i]) << (8 * i)
	}
	return n
}
