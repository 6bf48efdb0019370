package brr

import (
	"iter"

	"lanthorn/api"
)

// What a head's bits say.
const (
	shiftAt     = 4
	filterAt    = 2
	filterCount = 4
	loopBit     = 0x02
	endBit      = 0x01
)

// blocks goes over the whole blocks of b, each with how many bytes there are up to its end.
func blocks(b []uint8) iter.Seq2[int, []uint8] {
	return func(yield func(int, []uint8) bool) {
		for size := api.BlockSize; size <= len(b); size += api.BlockSize {
			if !yield(size, b[size-api.BlockSize:size]) {
				return
			}
		}
	}
}

// pieces goes over as many samples as a block has at a time, once at least; behind the last ones stand noughts.
func pieces(s []int16) iter.Seq[[]int16] {
	return func(yield func([]int16) bool) {
		for at := 0; at == 0 || at < len(s); at += api.BlockLen {
			var piece [api.BlockLen]int16
			copy(piece[:], s[at:])
			if !yield(piece[:]) {
				return
			}
		}
	}
}

// decode puts a block's samples behind s; with them are the last two.
func decode(s []int16, block []uint8, t past) ([]int16, past) {
	c := courseOf(block[0], t)
	for i := range api.BlockLen {
		s = append(s, int16(c.pass(numberAt(block, i))))
	}
	return s, c.past
}

// decodeAll is the samples of whole blocks.
func decodeAll(b []uint8) []int16 {
	s := make([]int16, 0, len(b)/api.BlockSize*api.BlockLen)
	var t past
	for _, block := range blocks(b) {
		s, t = decode(s, block, t)
	}
	return s
}

// nibbleAt is the byte of a block in which a nibble stands, and how far up: the upper one is the first of a byte.
func nibbleAt(i int) (at, up int) { return 1 + i/2, 4 * (1 - i%2) }

// numberAt is the number for which a block's nibble stands.
func numberAt(block []uint8, i int) int {
	at, up := nibbleAt(i)
	return int(int8(block[at]>>up<<4) >> 4)
}

// putNumber lays a number as a block's nibble, which is 0 so far.
func putNumber(block []uint8, i, number int) {
	at, up := nibbleAt(i)
	block[at] |= (uint8(number) & 0x0f) << up
}
