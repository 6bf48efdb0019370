package shape

import "iter"

// The greatest numbers that the lower bits of a form's bytes tell: a rate's five, an attack's four.
const (
	mostRate   = 31
	mostAttack = 15
)

// always is the rate that beats at each sample.
const always = mostRate

// longest are the periods of the rates 1 to 3; of each rate above them it is half of that three rates below.
var longest = [...]int{2048, 1536, 1280}

// How many bits noise has, and its greatest number.
const (
	noiseBits = 15
	mostNoise = 1<<noiseBits - 1
)

// numbers goes over the samples' numbers from n on, without an end.
func numbers(n int64) iter.Seq[int64] {
	return func(yield func(int64) bool) {
		for at := n; yield(at); at++ {
		}
	}
}
