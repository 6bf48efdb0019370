package tune

import "lanthorn/api"

// stack is where the stack's page begins.
const stack = 0x100

// topWord is where the first one stands of the words that TCALL and BRK go by; the others lie below it.
const topWord = 0xffde

// push pushes a byte.
func (u *runner) push(v uint8) {
	u.write(stack|uint16(u.S), v)
	u.S--
}

// pop pops a byte.
func (u *runner) pop() uint8 {
	u.S++
	return u.read(stack | uint16(u.S))
}

// pushRegister pushes a register.
func (u *runner) pushRegister() { u.push(u.d.read()) }

// popRegister pops a register.
func (u *runner) popRegister() { u.d.write(u.pop()) }

// branchIf goes on where the second operand leads, or behind the instruction.
func (u *runner) branchIf(is bool) {
	if !is {
		return
	}
	u.idles(2)
	u.Pc += uint16(int8(u.o.n))
}

// branchByFlag branches, if a flag is as the name says.
func (u *runner) branchByFlag() {
	switch u.code.Name {
	case "BPL":
		u.branchIf(!u.flag(api.PegN))
	case "BMI":
		u.branchIf(u.flag(api.PegN))
	case "BVC":
		u.branchIf(!u.flag(api.PegV))
	case "BVS":
		u.branchIf(u.flag(api.PegV))
	case "BCC":
		u.branchIf(!u.flag(api.PegC))
	case "BCS":
		u.branchIf(u.flag(api.PegC))
	case "BNE":
		u.branchIf(!u.flag(api.PegZ))
	case "BEQ":
		u.branchIf(u.flag(api.PegZ))
	case "BRA":
		u.branchIf(true)
	}
}

// branchByBit branches, if a bit is 1 (BBS) or 0 (BBC).
func (u *runner) branchByBit() { u.branchIf(u.readBit(u.d) == (u.code.Name == "BBS")) }

// branchUnlessA branches, if a byte is not A.
func (u *runner) branchUnlessA() { u.branchIf(u.d.read() != u.A) }

// branchDown makes a byte one less, and branches until it is 0.
func (u *runner) branchDown() {
	v := u.d.read() - 1
	u.d.write(v)
	u.branchIf(v != 0)
}

// jump goes on at an address, or at one that stands there and X.
func (u *runner) jump() {
	u.Pc = u.o.n
	if u.o.letter == '*' {
		u.Pc = u.wordAt(u.o.n + uint16(u.X))
	}
}

// pushPc pushes where the next instruction stands, the upper byte first.
func (u *runner) pushPc() {
	u.push(uint8(u.Pc >> 8))
	u.push(uint8(u.Pc))
}

// popPc goes on where that which was pushed says.
func (u *runner) popPc() {
	low := u.pop()
	u.Pc = uint16(u.pop())<<8 | uint16(low)
}

// call goes on at an address, and is come back from.
func (u *runner) call() {
	u.pushPc()
	u.Pc = u.o.n
	if u.o.letter == 'u' {
		u.Pc |= 0xff00
	}
}

// callByTable is a call of a place that stands in the table, by the code's number.
func (u *runner) callByTable() {
	u.pushPc()
	u.Pc = u.wordAt(topWord - 2*uint16(u.code.Code>>4))
}

// trap is a call that keeps the flags, too.
func (u *runner) trap() {
	u.pushPc()
	u.push(u.Psw)
	u.put(api.PegB, true)
	u.put(api.PegI, false)
	u.Pc = u.wordAt(topWord)
}

// back goes on behind a call.
func (u *runner) back() { u.popPc() }

// backFromTrap goes on behind a trap.
func (u *runner) backFromTrap() {
	u.Psw = u.pop()
	u.popPc()
}

// halt stops the processor for good.
func (u *runner) halt() { u.Halt = true }

// nothing goes on behind the instruction.
func (u *runner) nothing() {}
