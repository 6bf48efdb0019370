package tune

import "lanthorn/api"

// ya is Y above A.
func (u *runner) ya() uint16 { return uint16(u.Y)<<8 | uint16(u.A) }

// layYA makes a word Y above A.
func (u *runner) layYA(v uint16) { u.A, u.Y = uint8(v), uint8(v>>8) }

// wordOf reads the word that an operand means.
func (u *runner) wordOf(o operand) uint16 { return u.wordInPage(uint8(o.n)) }

// writeWord writes the word that an operand means, its lower byte first.
func (u *runner) writeWord(o operand, v uint16) {
	u.write(u.place(uint8(o.n)), uint8(v))
	u.write(u.place(uint8(o.n)+1), uint8(v>>8))
}

// moveWord makes YA a word, or a word YA.
func (u *runner) moveWord() {
	if u.d.letter == 'D' {
		u.writeWord(u.d, u.ya())
		return
	}
	u.layYA(u.wordOf(u.o))
	u.tellWord(u.ya())
}

// addWord adds a word to YA, or takes it away: as sums of its bytes, the upper one of which goes on with the lower one's carry, and leaves its C, H and V.
func (u *runner) addWord() {
	v := u.wordOf(u.o)
	less := u.code.Name == "SUBW"
	if less {
		v = ^v
	}
	u.put(api.PegC, less)
	u.A = u.sum(u.A, uint8(v))
	u.Y = u.sum(u.Y, uint8(v>>8))
	u.tellWord(u.ya())
}

// compareWord holds YA against a word.
func (u *runner) compareWord() {
	v := u.wordOf(u.o)
	u.put(api.PegC, u.ya() >= v)
	u.tellWord(u.ya() - v)
}

// changeWord makes a word one more, or one less.
func (u *runner) changeWord() {
	v := u.wordOf(u.d)
	if u.code.Name == "INCW" {
		v++
	} else {
		v--
	}
	u.writeWord(u.d, v)
	u.tellWord(v)
}

// multiply makes YA Y times A.
func (u *runner) multiply() {
	u.layYA(uint16(u.Y) * uint16(u.A))
	u.tell(u.Y)
}

// divide divides YA by X: A is how often, Y what is left over.
func (u *runner) divide() {
	u.put(api.PegH, u.Y&15 >= u.X&15)
	times, rest := uint16(0xffff), u.A
	if x := uint16(u.X); x != 0 {
		times, rest = u.ya()/x, uint8(u.ya()%x)
	}
	u.put(api.PegV, times > 0xff)
	u.A, u.Y = uint8(times), rest
	u.tell(u.A)
}
