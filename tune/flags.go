package tune

import "lanthorn/api"

// flag tells whether a flag is 1.
func (u *runner) flag(flag uint8) bool { return u.Psw&flag != 0 }

// put makes flags 1 or 0.
func (u *runner) put(flags uint8, on bool) {
	u.Psw &^= flags
	if on {
		u.Psw |= flags
	}
}

// tell sets N and Z by a byte.
func (u *runner) tell(v uint8) {
	u.put(api.PegN, v&0x80 != 0)
	u.put(api.PegZ, v == 0)
}

// tellWord sets N and Z by a word.
func (u *runner) tellWord(v uint16) {
	u.put(api.PegN, v&0x8000 != 0)
	u.put(api.PegZ, v == 0)
}

// putFlag makes flags 0 or 1, or turns one.
func (u *runner) putFlag() {
	switch u.code.Name {
	case "CLRC":
		u.put(api.PegC, false)
	case "SETC":
		u.put(api.PegC, true)
	case "NOTC":
		u.put(api.PegC, !u.flag(api.PegC))
	case "CLRP":
		u.put(api.PegP, false)
	case "SETP":
		u.put(api.PegP, true)
	case "EI":
		u.put(api.PegI, true)
	case "DI":
		u.put(api.PegI, false)
	case "CLRV":
		u.put(api.PegV|api.PegH, false)
	}
}
