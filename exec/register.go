package exec

import "lanthorn/api"

// putFlag makes a flag 0 (CLC and so on) or 1 (SEC and so on).
func (u *runner) putFlag() {
	u.Idle()
	u.put(flagOf(u.code.Name[2]), u.code.Name[:2] == "SE")
}

// flagOf is the flag with a letter, of those that have a name each.
func flagOf(letter byte) uint8 {
	switch letter {
	case 'I':
		return api.FlagI
	case 'D':
		return api.FlagD
	case 'V':
		return api.FlagV
	}
	return api.FlagC
}

// putFlags makes the flags of a byte 0 (REP) or 1 (SEP).
func (u *runner) putFlags() {
	flags := u.fetchByte()
	u.Idle()
	u.put(flags, u.code.Name == "SEP")
}

// transfer is the value of one register in another one; the name has both letters. Into the stack's place it goes without its N and Z.
func (u *runner) transfer() {
	u.Idle()
	from, to := u.place(u.code.Name[1]), u.code.Name[2]
	if to == 'S' {
		u.lay(to, *from)
		return
	}
	u.load(to, *from)
}

// swapBytes lets the bytes of A change places.
func (u *runner) swapBytes() {
	u.idles(2)
	u.A = u.A<<8 | u.A>>8
	u.work(api.AluLoad, 0, u.A, false)
}

// swapElder lets E and the flag C change places.
func (u *runner) swapElder() {
	u.Idle()
	carry := u.P&api.FlagC != 0
	u.put(api.FlagC, u.E)
	u.E = carry
}

// move carries a byte from one bank into another one, and is to be done again until A has gone round.
func (u *runner) move() {
	to, from := u.fetchByte(), u.fetchByte()
	v := u.ReadAt(from, uint32(u.X), 1)
	u.WriteAt(to, uint32(u.Y), uint8(v))
	u.idles(2)
	u.B = to
	step := uint16(1)
	if u.code.Name == "MVP" {
		step = 0xffff
	}
	u.X += step
	u.Y += step
	if u.A != 0 {
		u.PC -= 3
	}
	u.A--
}
