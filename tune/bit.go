package tune

import "lanthorn/api"

// bitOf is the bit that an operand means in its byte.
func (u *runner) bitOf(o operand) uint8 {
	if o.letter == 'b' {
		return 1 << (u.code.Code >> 5)
	}
	return 1 << (o.n >> 13)
}

// changeBit makes a bit 1 or 0, or turns it.
func (u *runner) changeBit() {
	bit := u.bitOf(u.d)
	v := u.d.read()
	switch u.code.Name {
	case "SET1":
		v |= bit
	case "CLR1":
		v &^= bit
	case "NOT1":
		v ^= bit
	}
	u.d.write(v)
}

// changeBits makes a byte's bits 1 or 0 that A has; it is held against A as it was.
func (u *runner) changeBits() {
	v := u.d.read()
	u.tell(u.A - v)
	if u.code.Name == "TSET1" {
		u.d.write(v | u.A)
		return
	}
	u.d.write(v &^ u.A)
}

// readBit tells whether an operand's bit is 1, or, if the operand is turned, 0.
func (u *runner) readBit(o operand) bool {
	is := o.read()&u.bitOf(o) != 0
	return is != (o.letter == '/')
}

// combineCarry makes the carry of itself and a bit.
func (u *runner) combineCarry() {
	carry, bit := u.flag(api.PegC), u.readBit(u.o)
	switch u.code.Name {
	case "OR1":
		carry = carry || bit
	case "AND1":
		carry = carry && bit
	case "EOR1":
		carry = carry != bit
	}
	u.put(api.PegC, carry)
}

// moveBit makes the carry a bit, or a bit the carry.
func (u *runner) moveBit() {
	if u.d.letter == 'C' {
		u.put(api.PegC, u.readBit(u.o))
		return
	}
	bit := u.bitOf(u.d)
	v := u.d.read() &^ bit
	if u.flag(api.PegC) {
		v |= bit
	}
	u.d.write(v)
}
