package exec

import (
	"lanthorn/alu"
	"lanthorn/api"
	"lanthorn/codes"
	"lanthorn/reach"
	"lanthorn/walk"
)

// runner carries out one instruction, or one interrupt.
type runner struct {
	walk.Walker
	code  api.Code
	after uint8
}

func runnerOf(r api.Regs, seen []uint8) *runner {
	return &runner{Walker: walk.Walker{Regs: reach.Settle(r), Seen: seen}}
}

// turn is what was walked; where that stopped nothing is known of what comes behind.
func (u *runner) turn() api.Turn {
	if u.Stopped {
		return api.Turn{List: u.List}
	}
	return api.Turn{List: u.List, Done: true, Regs: reach.Settle(u.Regs), After: u.after}
}

// act is what a name does once its code was fetched.
func (u *runner) act(name string) func() {
	switch name {
	case "ORA", "AND", "EOR", "ADC", "SBC", "CMP", "BIT", "LDA", "LDX", "LDY", "CPX", "CPY":
		return u.take
	case "STA", "STX", "STY", "STZ":
		return u.store
	case "ASL", "ROL", "LSR", "ROR", "INC", "DEC", "TSB", "TRB":
		return u.change
	case "INX", "INY", "DEX", "DEY":
		return u.changeRegister
	case "CLC", "SEC", "CLI", "SEI", "CLD", "SED", "CLV":
		return u.putFlag
	case "NOP":
		return u.Idle
	case "TAX", "TAY", "TSX", "TXY", "TYX", "TXA", "TYA", "TXS", "TCS", "TSC", "TCD", "TDC":
		return u.transfer
	case "XBA":
		return u.swapBytes
	case "XCE":
		return u.swapElder
	case "REP", "SEP":
		return u.putFlags
	case "PHA", "PHX", "PHY", "PHD", "PHB", "PHK", "PHP":
		return u.pushRegister
	case "PLA", "PLX", "PLY", "PLD", "PLB", "PLP":
		return u.pullRegister
	case "PEA", "PEI", "PER":
		return u.pushOperand
	case "MVN", "MVP":
		return u.move
	case "WDM":
		return u.skip
	}
	return u.flow(name)
}

// flow is act of the names that say what is next.
func (u *runner) flow(name string) func() {
	switch name {
	case "BPL", "BMI", "BVC", "BVS", "BCC", "BCS", "BNE", "BEQ", "BRA":
		return u.branch
	case "BRL":
		return u.branchFar
	case "JMP":
		return u.jump
	case "JML":
		return u.jumpFar
	case "JSR":
		return u.call
	case "JSL":
		return u.callFar
	case "RTS":
		return u.back
	case "RTL":
		return u.backFar
	case "RTI":
		return u.backFromInterrupt
	case "BRK", "COP":
		return u.trap
	}
	return u.rest // WAI, STP
}

// idles are so many cycles in which nothing is touched.
func (u *runner) idles(count int) {
	for range count {
		u.Idle()
	}
}

// fetchByte and fetchWord read the program.
func (u *runner) fetchByte() uint8  { return uint8(u.Fetch(1)) }
func (u *runner) fetchWord() uint16 { return uint16(u.Fetch(2)) }

// put makes flags 1 or 0.
func (u *runner) put(flags uint8, on bool) {
	u.P &^= flags
	if on {
		u.P |= flags
	}
}

// work is what an operation makes of two numbers; the flags are as it sets them.
func (u *runner) work(op uint8, a, b uint16, wide bool) uint16 {
	x, p, _ := alu.Do(op, a, b, u.P, wide)
	u.P = p
	return x
}

// place is where the register with a letter stands: C is A with both of its bytes.
func (u *runner) place(letter byte) *uint16 {
	switch letter {
	case 'X':
		return &u.X
	case 'Y':
		return &u.Y
	case 'S':
		return &u.S
	case 'D':
		return &u.D
	}
	return &u.A
}

// wide tells whether the register with a letter has sixteen bits.
func (u *runner) wide(letter byte) bool {
	switch letter {
	case 'A':
		return codes.Wide(api.WidthM, u.P)
	case 'X', 'Y':
		return codes.Wide(api.WidthX, u.P)
	}
	return true
}

// lay makes a number of its width the value of a register. (The upper byte of a narrow index register is 0 already.)
func (u *runner) lay(letter byte, v uint16) {
	at := u.place(letter)
	if !u.wide(letter) {
		v = *at&0xff00 | v&0xff
	}
	*at = v
}

// load lays a number into a register, and sets its N and Z.
func (u *runner) load(letter byte, v uint16) {
	u.lay(letter, u.work(api.AluLoad, 0, v, u.wide(letter)))
}
