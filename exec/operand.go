package exec

import (
	"slices"

	"lanthorn/api"
	"lanthorn/reach"
)

// register is the letter of the register with whose value a name works.
func register(name string) byte {
	if last := name[len(name)-1]; last == 'X' || last == 'Y' {
		return last
	}
	return 'A'
}

// operation is what the arithmetic unit does for a name.
func operation(name string) uint8 {
	switch name {
	case "ORA":
		return api.AluOr
	case "AND":
		return api.AluAnd
	case "EOR":
		return api.AluXor
	case "ADC":
		return api.AluAdd
	case "SBC":
		return api.AluSub
	case "CMP", "CPX", "CPY":
		return api.AluCmp
	case "BIT":
		return api.AluBit
	case "ASL":
		return api.AluAsl
	case "ROL":
		return api.AluRol
	case "LSR":
		return api.AluLsr
	case "ROR":
		return api.AluRor
	case "INC", "INX", "INY":
		return api.AluInc
	case "DEC", "DEX", "DEY":
		return api.AluDec
	case "TSB":
		return api.AluTsb
	case "TRB":
		return api.AluTrb
	}
	return api.AluLoad
}

// operand walks to the operand, by the code's mode, and is its place.
func (u *runner) operand() api.Place {
	list, p, pc, _ := reach.Course(u.code, u.Regs, u.Seen)
	u.Carry(list)
	u.PC = pc
	return p
}

// valueAt reads the operand that lies at a place.
func (u *runner) valueAt(p api.Place, wide bool) uint16 {
	return uint16(u.Carry(reach.Data(p, api.Read, 0, wide)))
}

// take works out a register's value and an operand.
func (u *runner) take() {
	letter, op := register(u.code.Name), operation(u.code.Name)
	wide := u.wide(letter)
	var v uint16
	switch {
	case u.code.Mode != api.ModeImm:
		v = u.valueAt(u.operand(), wide)
	case wide:
		v = u.fetchWord()
	default:
		v = uint16(u.fetchByte())
	}
	if op == api.AluBit && u.code.Mode == api.ModeImm {
		op = api.AluBitI
	}
	u.lay(letter, u.work(op, *u.place(letter), v, wide))
}

// store writes a register's value, or 0.
func (u *runner) store() {
	letter := register(u.code.Name)
	v := *u.place(letter)
	if u.code.Name == "STZ" {
		v = 0
	}
	u.Carry(reach.Data(u.operand(), api.Write, v, u.wide(letter)))
}

// change reads an operand, works it out, and writes it back, its upper byte first.
func (u *runner) change() {
	if u.code.Mode == api.ModeA {
		u.changeRegister()
		return
	}
	wide := u.wide('A')
	p := u.operand()
	v := u.valueAt(p, wide)
	u.Idle()
	a, b := v, uint16(0)
	op := operation(u.code.Name)
	if op == api.AluTsb || op == api.AluTrb {
		a, b = u.A, v
	}
	list := reach.Data(p, api.Write, u.work(op, a, b, wide), wide)
	slices.Reverse(list)
	u.Carry(list)
}

// changeRegister works out a register's value alone.
func (u *runner) changeRegister() {
	u.Idle()
	letter := register(u.code.Name)
	u.lay(letter, u.work(operation(u.code.Name), *u.place(letter), 0, u.wide(letter)))
}
