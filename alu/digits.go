package alu

// digits are a number's rows of four bits, the lowest first.
type digits [4]uint16

// digitCount is how many digits a number has.
func digitCount(wide bool) int {
	if wide {
		return 4
	}
	return 2
}

// apart is a number in its digits.
func apart(x uint16) digits {
	var l digits
	for i := range len(l) {
		l[i] = x >> (4 * i) & 15
	}
	return l
}

// together is the number that has these digits.
func together(l digits) uint16 {
	var x uint16
	for i := range len(l) {
		x |= l[i] << (4 * i)
	}
	return x
}

// correctSum makes a digit, and what is carried, of the sum of two digits.
func correctSum(s uint16) (digit, carry uint16) {
	if s > 9 {
		return (s + 6) & 15, 1
	}
	return s, 0
}

// correctDifference does so where the second digit was taken from 15.
func correctDifference(s uint16) (digit, carry uint16) {
	if s > 15 {
		return s & 15, 1
	}
	return (s - 6) & 15, 0
}
