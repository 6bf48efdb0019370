package tune

import "lanthorn/notes"

// operand is one of an instruction's: its letter, its bytes as a number; if it is a byte, how that is read and written.
type operand struct {
	letter byte
	n      uint16
	read   func() uint8
	write  func(v uint8)
}

// fetchOperands reads the operands' bytes: those of where a branch leads are the last ones, otherwise the last operand's come first.
func (u *runner) fetchOperands() {
	form := u.code.Form
	switch {
	case form == "":
	case len(form) == 1:
		u.d = u.operandOf(form[0])
		u.o = u.d
	case form[1] == 'r':
		u.d = u.operandOf(form[0])
		u.o = u.operandOf(form[1])
	default:
		u.o = u.operandOf(form[1])
		u.d = u.operandOf(form[0])
	}
}

// operandOf is the operand of a letter, whose bytes are next.
func (u *runner) operandOf(letter byte) operand {
	n := u.fetchNumber(notes.Width(letter))
	o := operand{letter: letter, n: n}
	switch letter {
	case 'A', 'X', 'Y', 'S', 'P':
		at := u.register(letter)
		o.read = func() uint8 { return *at }
		o.write = func(v uint8) { *at = v }
	case '#':
		o.read = func() uint8 { return uint8(n) }
	case 'd', 'x', 'y', 'i', 'j', '+', 'a', 'p', 'q', 'l', 'm', 'b', 'n', '/':
		o.read = func() uint8 { return u.read(u.address(letter, n)) }
		o.write = func(v uint8) { u.write(u.address(letter, n), v) }
	}
	return o
}

// fetchNumber reads so many bytes of the program as a number, the lowest first.
func (u *runner) fetchNumber(size int) uint16 {
	n := uint16(0)
	for i := range size {
		n |= uint16(u.fetch()) << (8 * i)
	}
	return n
}

// register is where the register with a letter stands.
func (u *runner) register(letter byte) *uint8 {
	switch letter {
	case 'X':
		return &u.X
	case 'Y':
		return &u.Y
	case 'S':
		return &u.S
	case 'P':
		return &u.Psw
	}
	return &u.A
}

// address is where the byte of a letter with a number stands. Words that lead to it are read now, and X goes on by one, if the letter says so.
func (u *runner) address(letter byte, n uint16) uint16 {
	b := uint8(n)
	switch letter {
	case 'd', 'b':
		return u.place(b)
	case 'x':
		return u.place(b + u.X)
	case 'y':
		return u.place(b + u.Y)
	case 'i':
		return u.place(u.X)
	case 'j':
		return u.place(u.Y)
	case '+':
		u.X++
		return u.place(u.X - 1)
	case 'p':
		return n + uint16(u.X)
	case 'q':
		return n + uint16(u.Y)
	case 'l':
		return u.wordInPage(b + u.X)
	case 'm':
		return u.wordInPage(b) + uint16(u.Y)
	case 'n', '/':
		return n & 0x1fff
	}
	return n // a
}
