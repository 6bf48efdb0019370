package voices

// weightCount is how many of the last samples the echo is made of.
const weightCount = 8

// Where the echo is in the memory: how many bytes of it a unit of its length has, the bits of that, and the bytes of a pair of samples.
const (
	lengthBytes = 2048
	mostLength  = 15
	pairBytes   = 4
)

// echo is where the echo stands, and what it was made of.
type echo struct {
	place uint16
	row   [weightCount * sideCount]int16 // the last samples, oldest first, left and right in turn
}

// hear puts the words at an address behind the last samples.
func (e *echo) hear(ram memory, addr uint16) {
	copy(e.row[:], e.row[sideCount:])
	newest := e.row[len(e.row)-sideCount:]
	for side := range newest {
		newest[side] = int16(ram.word(addr + 2*uint16(side)))
	}
}

// sound is the echo on either side.
func (e *echo) sound(r *registers) sides {
	var s sides
	for i, x := range e.row {
		s[i%sideCount] += times(int(x), r.own(i / sideCount)[weightsAt])
	}
	for side := range s {
		s[side] = clamp(s[side])
	}
	return s
}

// move lets the echo's place go on, by the echo's length.
func (e *echo) move(length uint8) {
	e.place += pairBytes
	if e.place >= max(pairBytes, lengthBytes*uint16(length&mostLength)) {
		e.place = 0
	}
}

// canBe tells whether the echo may come to stand so.
func (e *echo) canBe() bool { return e.place < lengthBytes*mostLength && e.place%pairBytes == 0 }
