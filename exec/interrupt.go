package exec

import "lanthorn/api"

// enter goes on where a vector says; where it was, and the flags, are pushed.
func (u *runner) enter(vector uint32, flags uint8) {
	if !u.E {
		u.push(u.K)
	}
	u.pushWord(u.PC)
	u.push(flags)
	u.put(api.FlagI, true)
	u.put(api.FlagD, false)
	u.goFar(u.ReadAt(0, vector, 2))
}

// trap is an interrupt that a program makes itself.
func (u *runner) trap() {
	u.skip()
	vector := either(u.E, 0xfffe, 0xffe6)
	if u.code.Name == "COP" {
		vector = either(u.E, 0xfff4, 0xffe4)
	}
	u.enter(vector, u.P)
}

// interrupt is one from outside; the elder tells it from the program's own by the flag X on the stack.
func (u *runner) interrupt(why uint8) {
	u.idles(2)
	flags := u.P
	if u.E {
		flags &^= api.FlagX
	}
	u.enter(Vector(why, u.E), flags)
}

// reset begins anew, as the elder.
func (u *runner) reset() {
	u.idles(5)
	u.S -= 3
	u.E = true
	u.D, u.B = 0, 0
	u.put(api.FlagI, true)
	u.put(api.FlagD, false)
	u.goFar(u.ReadAt(0, Vector(api.WhyReset, u.E), 2))
}
