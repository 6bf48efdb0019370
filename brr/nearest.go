package brr

import (
	"math"

	"lanthorn/api"
)

// rank is where one of several stands: how far it is from what was asked, and its number, which tells between those that are as far.
type rank struct {
	far    int64
	number int
}

// farthest is a rank that any other one goes ahead of.
func farthest() rank { return rank{far: math.MaxInt64} }

// nearer is the one of two ranks that goes ahead.
func nearer(a, b rank) rank {
	if b.far < a.far || b.far == a.far && b.number < a.number {
		return b
	}
	return a
}

// attempt is the block by a shift and a filter for some samples; its number is less by a lesser filter, and by a lesser shift of the same filter.
type attempt struct {
	rank
	past  // its own last two samples
	block [api.BlockSize]uint8
}

// attemptOf makes the block by a shift and a filter.
func attemptOf(s []int16, shift, filter int, t past) attempt {
	head := uint8(shift<<shiftAt | filter<<filterAt)
	a := attempt{rank: rank{number: filter*(mostShift+1) + shift}}
	a.block[0] = head
	c := courseOf(head, t)
	for i, want := range s {
		best := c.nearest(int(want))
		c.pass(best.number)
		putNumber(a.block[:], i, best.number)
		a.far += best.far
	}
	a.past = c.past
	return a
}

// nearestBlock is the nearest block for sixteen samples.
func nearestBlock(s []int16, t past) attempt {
	best := attempt{rank: farthest()}
search:
	for filter := range filterCount {
		for shift := range mostShift + 1 {
			a := attemptOf(s, shift, filter, t)
			if nearer(best.rank, a.rank) == a.rank {
				best = a
			}
			if best.far == 0 { // the numbers of those to come are greater
				break search
			}
		}
	}
	return best
}
