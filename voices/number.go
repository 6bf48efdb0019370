package voices

import "math"

// sideCount is how many sides there are, the left and the right.
const sideCount = 2

// sides are a number on either side, the left one first.
type sides [sideCount]int

// add adds what a voice says to a mix, by how loud it is on either side.
func (s *sides) add(said int, loud [sideCount]uint8) {
	for side, by := range loud {
		s[side] = clamp(s[side] + times(said, by))
	}
}

// clamp is the nearest sample to a number.
func clamp(x int) int { return max(math.MinInt16, min(x, math.MaxInt16)) }

// times is a number times a signed byte, by 128. Here and elsewhere a part is taken by a shift where it is to be rounded down of numbers below 0, too.
func times(x int, signed uint8) int { return x * int(int8(signed)) >> 7 }
