package brr

import "math"

// The numbers for which nibbles stand.
const (
	leastNumber = -8
	mostNumber  = 7
)

// mostShift is the greatest shift that makes samples greater; of one beyond it a number below 0 is lowest, any other one nothing.
const (
	mostShift = 12
	lowest    = -2048
)

// past is the two samples ahead of one: p the last of them, q the one ahead of that.
type past struct{ p, q int }

// filters are, by their numbers, what each foresees of a sample by the two ahead of it.
func filters() [filterCount]func(past) int {
	return [...]func(past) int{
		func(past) int { return 0 },
		func(t past) int { return by(t.p*15, 16) },
		func(t past) int { return by(t.p*61, 32) - by(t.q*15, 16) },
		func(t past) int { return by(t.p*115, 64) - by(t.q*13, 16) },
	}
}

// course is what nibbles stand for as they come one behind the other: by their block's shift and filter, and the samples ahead.
type course struct {
	past
	shift   uint8
	foresee func(past) int
}

func courseOf(head uint8, t past) course {
	h := Read(head)
	return course{t, h.Shift, filters()[h.Filter]}
}

// sample is what a nibble's number stands for, something being foreseen.
func (c *course) sample(number, foreseen int) int { return clamp(scaled(number, c.shift) + foreseen) }

// pass goes on behind a nibble, and is its sample.
func (c *course) pass(number int) int {
	x := c.sample(number, c.foresee(c.past))
	c.past = past{x, c.p}
	return x
}

// nearest is the nibble's number whose sample is least far from one.
func (c *course) nearest(want int) rank {
	foreseen := c.foresee(c.past)
	best := farthest()
	for number := leastNumber; number <= mostNumber; number++ {
		best = nearer(best, rank{square(c.sample(number, foreseen) - want), number})
	}
	return best
}

// scaled is a nibble's number by a shift.
func scaled(number int, shift uint8) int {
	switch {
	case shift <= mostShift:
		return by(number<<shift, 2)
	case number < 0:
		return lowest
	}
	return 0
}

// by is the n-th part of a number, rounded down, of one below 0 too.
func by(x, n int) int {
	part := x / n
	if x%n < 0 {
		part--
	}
	return part
}

// clamp is the nearest sample to a number.
func clamp(x int) int { return max(math.MinInt16, min(x, math.MaxInt16)) }

// square is of 64 bits, as int may have too few for it.
func square(x int) int64 { return int64(x) * int64(x) }
