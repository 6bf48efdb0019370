package tune

import (
	"lanthorn/api"
	"lanthorn/notes"
)

// mostAccesses is how many accesses the longest instruction has.
const mostAccesses = 12

// runner carries out one instruction.
type runner struct {
	api.Pegs
	answer func(at uint16) uint8 // what a read reads
	list   []api.Access          // the accesses so far
	code   api.Note
	d, o   operand // the first one, and the second one; both are the same where there is one
}

func runnerOf(r api.Pegs, answer func(at uint16) uint8) *runner {
	return &runner{Pegs: r, answer: answer, list: make([]api.Access, 0, mostAccesses)}
}

// run carries the instruction out.
func (u *runner) run() {
	if u.Halt {
		u.idles(1)
		return
	}
	u.code = notes.Of(u.fetch())
	u.fetchOperands()
	u.idles(u.code.Cycles - len(u.list) - touches(u.code))
	u.act()()
}

// act is what the code's name does.
func (u *runner) act() func() {
	switch u.code.Name {
	case "MOV":
		return u.move
	case "OR", "AND", "EOR", "ADC", "SBC":
		return u.combine
	case "CMP":
		return u.compare
	case "ASL", "LSR", "ROL", "ROR", "INC", "DEC":
		return u.change
	case "DAA":
		return u.adjustSum
	case "DAS":
		return u.adjustDifference
	case "XCN":
		return u.exchange
	case "SET1", "CLR1", "NOT1":
		return u.changeBit
	case "TSET1", "TCLR1":
		return u.changeBits
	case "OR1", "AND1", "EOR1":
		return u.combineCarry
	case "MOV1":
		return u.moveBit
	case "MOVW":
		return u.moveWord
	case "ADDW", "SUBW":
		return u.addWord
	case "CMPW":
		return u.compareWord
	case "INCW", "DECW":
		return u.changeWord
	case "MUL":
		return u.multiply
	case "DIV":
		return u.divide
	case "CLRC", "SETC", "NOTC", "CLRP", "SETP", "EI", "DI", "CLRV":
		return u.putFlag
	case "NOP":
		return u.nothing
	}
	return u.flow()
}

// flow is act of the names that move the stack, or say what is next.
func (u *runner) flow() func() {
	switch u.code.Name {
	case "PUSH":
		return u.pushRegister
	case "POP":
		return u.popRegister
	case "BPL", "BMI", "BVC", "BVS", "BCC", "BCS", "BNE", "BEQ", "BRA":
		return u.branchByFlag
	case "BBS", "BBC":
		return u.branchByBit
	case "CBNE":
		return u.branchUnlessA
	case "DBNZ":
		return u.branchDown
	case "JMP":
		return u.jump
	case "CALL", "PCALL":
		return u.call
	case "TCALL":
		return u.callByTable
	case "BRK":
		return u.trap
	case "RET":
		return u.back
	case "RETI":
		return u.backFromTrap
	}
	return u.halt // SLEEP, STOP
}

// idles are so many cycles in which nothing is touched.
func (u *runner) idles(count int) {
	for range count {
		u.list = append(u.list, api.Access{Kind: api.Idle})
	}
}

// read reads a byte.
func (u *runner) read(at uint16) uint8 {
	// The read is kept ahead of its answer: it is the last access of an instruction that lacks its byte.
	u.list = append(u.list, api.Access{Kind: api.Read, Addr: uint32(at)})
	return u.answer(at)
}

// write writes a byte.
func (u *runner) write(at uint16, v uint8) {
	u.list = append(u.list, api.Access{Kind: api.Write, Addr: uint32(at), Value: v})
}

// readWord reads a word, whose bytes stand at two addresses, the lower one first.
func (u *runner) readWord(low, high uint16) uint16 {
	v := uint16(u.read(low))
	return v | uint16(u.read(high))<<8
}

// wordAt reads the word at an address.
func (u *runner) wordAt(at uint16) uint16 { return u.readWord(at, at+1) }

// wordInPage reads the word at a place of the direct page, which it does not leave.
func (u *runner) wordInPage(b uint8) uint16 { return u.readWord(u.place(b), u.place(b+1)) }

// place is the address of a place of the direct page.
func (u *runner) place(b uint8) uint16 {
	if u.flag(api.PegP) {
		return 0x100 | uint16(b)
	}
	return uint16(b)
}

// fetch reads a byte of the program.
func (u *runner) fetch() uint8 {
	v := u.read(u.Pc)
	u.Pc++
	return v
}
