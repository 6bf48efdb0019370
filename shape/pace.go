package shape

import "lanthorn/api"

// The phases, in api's order.
const (
	release = api.PhaseRelease + iota
	attack
	decay
	sustain
)

// pace is how a level goes on: at which rate it changes, and by which change.
type pace struct {
	rate   uint8
	change int
}

// byGain tells whether a shape goes by Gain, not by its phase.
func byGain(phase uint8, f api.Form) bool { return phase != release && f.Attack&0x80 == 0 }

// paceOf is the pace of a shape by a form.
func paceOf(phase uint8, f api.Form) pace {
	if byGain(phase, f) {
		return gainPace(f.Gain)
	}
	return phasePace(phase, f)
}

// phasePace is the pace of a shape that goes by its phase.
func phasePace(phase uint8, f api.Form) pace {
	rate := f.Sustain & mostRate
	switch phase {
	case release:
		return pace{always, fade}
	case attack:
		return attackPace(f.Attack & mostAttack)
	case decay:
		rate = 16 + 2*(f.Attack>>4&7)
		fallthrough
	default: // sustain, and each phase above it, which the document takes for sustain
		return pace{rate, shrink}
	}
}

// attackPace is the pace of an attack by the lower bits of its byte.
func attackPace(a uint8) pace {
	if a == mostAttack {
		return pace{always, leap}
	}
	return pace{2*a + 1, rise}
}

// gainPace is the pace that Gain tells.
func gainPace(gain uint8) pace {
	if gain&0x80 == 0 {
		return pace{always, hold}
	}
	return pace{gain & mostRate, int(gain >> 5 & 3)}
}

// phaseBehind is the phase behind a sample, which made the level what it is.
func phaseBehind(phase uint8, f api.Form, level int) uint8 {
	switch {
	case byGain(phase, f): // the phase stays, wherever the level is
	case phase == attack && level == api.MaxLevel:
		return decay
	case phase == decay && level <= 256*(int(f.Sustain>>5)+1):
		return sustain
	}
	return phase
}
