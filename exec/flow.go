package exec

import (
	"lanthorn/alu"
	"lanthorn/api"
)

// branch goes on elsewhere, if the flags are as the name says.
func (u *runner) branch() {
	way := alu.Extend(u.fetchByte())
	if !u.branches() {
		return
	}
	u.Idle()
	to := u.PC + way
	if u.E && to>>8 != u.PC>>8 {
		u.Idle()
	}
	u.PC = to
}

// branches tells whether the flags are as the name says.
func (u *runner) branches() bool {
	switch u.code.Name {
	case "BPL":
		return u.P&api.FlagN == 0
	case "BMI":
		return u.P&api.FlagN != 0
	case "BVC":
		return u.P&api.FlagV == 0
	case "BVS":
		return u.P&api.FlagV != 0
	case "BCC":
		return u.P&api.FlagC == 0
	case "BCS":
		return u.P&api.FlagC != 0
	case "BNE":
		return u.P&api.FlagZ == 0
	case "BEQ":
		return u.P&api.FlagZ != 0
	}
	return true
}

// branchFar goes on anywhere in the bank.
func (u *runner) branchFar() {
	way := u.fetchWord()
	u.Idle()
	u.PC += way
}

// jump goes on at another place of the bank.
func (u *runner) jump() {
	to := u.fetchWord()
	switch u.code.Mode {
	case api.ModeAbsInd:
		to = uint16(u.ReadAt(0, uint32(to), 2))
	case api.ModeAbsIndX:
		to = u.listed(to)
	}
	u.PC = to
}

// listed is the word that stands in the program's bank X behind a place.
func (u *runner) listed(at uint16) uint16 {
	u.Idle()
	return uint16(u.ReadAt(u.K, uint32(at)+uint32(u.X), 2))
}

// jumpFar goes on in another bank.
func (u *runner) jumpFar() {
	if u.code.Mode == api.ModeAbsIndLong {
		u.goFar(u.ReadAt(0, u.Fetch(2), 3))
		return
	}
	u.goFar(u.Fetch(3))
}

// goFar goes on at an address.
func (u *runner) goFar(addr uint32) {
	u.PC = uint16(addr)
	u.K = uint8(addr >> 16)
}

// call goes on at another place of the bank; the place of the call's last byte is pushed.
func (u *runner) call() {
	if u.code.Mode == api.ModeAbsIndX {
		low := u.fetchByte()
		u.pushWord(u.PC)
		high := u.fetchByte()
		u.PC = u.listed(uint16(high)<<8 | uint16(low))
		return
	}
	to := u.fetchWord()
	u.Idle()
	u.pushWord(u.PC - 1)
	u.PC = to
}

// callFar goes on in another bank.
func (u *runner) callFar() {
	to := u.fetchWord()
	u.push(u.K)
	u.Idle()
	bank := u.fetchByte()
	u.pushWord(u.PC - 1)
	u.PC, u.K = to, bank
}

// back goes on behind a call.
func (u *runner) back() {
	u.idles(2)
	to := u.pullWord()
	u.Idle()
	u.PC = to + 1
}

// backFar goes on behind a call from another bank.
func (u *runner) backFar() {
	u.idles(2)
	u.PC = u.pullWord() + 1
	u.K = u.pull()
}

// backFromInterrupt goes on where an interrupt came.
func (u *runner) backFromInterrupt() {
	u.idles(2)
	u.P = u.pull()
	u.PC = u.pullWord()
	if !u.E {
		u.K = u.pull()
	}
}

// skip fetches a byte for nothing.
func (u *runner) skip() { u.fetchByte() }

// rest lets the processor wait, or stop.
func (u *runner) rest() {
	u.idles(2)
	u.after = api.AfterWait
	if u.code.Name == "STP" {
		u.after = api.AfterStop
	}
}
