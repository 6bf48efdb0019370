package cart

import "math/bits"

// lead is where a place leads in a size above 0. What lies beyond the greatest power of two within a size is a memory of its own, that comes again and again behind it.
func lead(at, size uint64) uint64 {
	var base uint64
	for at >= size {
		at &= roundUp(size) - 1
		if at < size {
			break
		}
		p := roundDown(size)
		base += p
		at -= p
		size -= p
	}
	return base + at
}

// roundUp is the least power of two that is not below a size, roundDown the greatest that is not above it.
func roundUp(size uint64) uint64 { return 1 << bits.Len64(size-1) }

func roundDown(size uint64) uint64 { return 1 << (bits.Len64(size) - 1) }
