package exec

import "lanthorn/api"

// moveStack moves the stack's place, which does not leave its page, if the processor emulates its elder.
func (u *runner) moveStack(by uint16) {
	u.S += by
	if u.E {
		u.S = 0x100 | u.S&0xff
	}
}

// push pushes a byte.
func (u *runner) push(v uint8) {
	u.WriteAt(0, uint32(u.S), v)
	u.moveStack(0xffff)
}

// pushWord pushes a word, its upper byte first.
func (u *runner) pushWord(v uint16) {
	u.push(uint8(v >> 8))
	u.push(uint8(v))
}

// pull pulls a byte.
func (u *runner) pull() uint8 {
	u.moveStack(1)
	return uint8(u.ReadAt(0, uint32(u.S), 1))
}

// pullWord pulls a word, its lower byte first.
func (u *runner) pullWord() uint16 {
	low := u.pull()
	return uint16(u.pull())<<8 | uint16(low)
}

// pushRegister pushes the register whose letter the name has last.
func (u *runner) pushRegister() {
	u.Idle()
	switch letter := u.code.Name[2]; letter {
	case 'B':
		u.push(u.B)
	case 'K':
		u.push(u.K)
	case 'P':
		u.push(u.P)
	default:
		v := *u.place(letter)
		if u.wide(letter) {
			u.pushWord(v)
			return
		}
		u.push(uint8(v))
	}
}

// pullRegister pulls the register whose letter the name has last.
func (u *runner) pullRegister() {
	u.idles(2)
	switch letter := u.code.Name[2]; letter {
	case 'B':
		u.B = u.pull()
		u.work(api.AluLoad, 0, uint16(u.B), false)
	case 'P':
		u.P = u.pull()
	default:
		if u.wide(letter) {
			u.load(letter, u.pullWord())
			return
		}
		u.load(letter, uint16(u.pull()))
	}
}

// pushOperand pushes a word of the program (PEA), of the direct page (PEI), or one that lies so far from what is next (PER).
func (u *runner) pushOperand() {
	switch u.code.Name {
	case "PEA":
		u.pushWord(u.fetchWord())
	case "PEI":
		// The word that leads to an operand of this mode is the lower part of its place.
		u.pushWord(uint16(u.operand().Addr))
	case "PER":
		way := u.fetchWord()
		u.Idle()
		u.pushWord(u.PC + way)
	}
}
