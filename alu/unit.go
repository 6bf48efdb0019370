package alu

import "lanthorn/api"

// unit is the arithmetic unit within one operation: its flags, and the bits of its numbers.
type unit struct {
	flags uint8
	count int    // how many digits a number has
	mask  uint16 // all bits of a number
	top   uint16 // its top bit
}

func unitOf(flags uint8, wide bool) unit {
	if wide {
		return unit{flags, digitCount(wide), 0xffff, 0x8000}
	}
	return unit{flags, digitCount(wide), 0xff, 0x80}
}

// answer is what an operation makes of two numbers of the unit's width; false: there is no such operation.
func (u *unit) answer(op uint8, a, b uint16) (uint16, bool) {
	var in uint16 // the bit that comes into a number that is moved
	correct := correctSum
	switch op {
	case api.AluOr:
		return u.sign(a | b), true
	case api.AluAnd:
		return u.sign(a & b), true
	case api.AluXor:
		return u.sign(a ^ b), true
	case api.AluSub:
		b ^= u.mask
		correct = correctDifference
		fallthrough
	case api.AluAdd:
		if u.flags&api.FlagD != 0 {
			return u.addDigits(a, b, correct), true
		}
		return u.add(a, b), true
	case api.AluCmp:
		u.set(api.FlagC, a >= b)
		u.sign(a - b)
		return a, true
	case api.AluBit:
		u.set(api.FlagN, b&u.top != 0)
		u.set(api.FlagV, b&(u.top>>1) != 0)
		fallthrough
	case api.AluBitI:
		u.common(a, b)
		return a, true
	case api.AluLoad:
		return u.sign(b), true
	case api.AluRol:
		in = u.carry()
		fallthrough
	case api.AluAsl:
		u.set(api.FlagC, a&u.top != 0)
		return u.sign(a<<1 | in), true
	case api.AluRor:
		in = u.top * u.carry()
		fallthrough
	case api.AluLsr:
		u.set(api.FlagC, a&1 != 0)
		return u.sign(a>>1 | in), true
	case api.AluInc:
		return u.sign(a + 1), true
	case api.AluDec:
		return u.sign(a - 1), true
	case api.AluTsb:
		u.common(a, b)
		return b | a, true
	case api.AluTrb:
		u.common(a, b)
		return b &^ a, true
	}
	return 0, false
}

// add is both numbers and the carry together.
func (u *unit) add(a, b uint16) uint16 {
	sum := uint32(a) + uint32(b) + uint32(u.carry())
	u.set(api.FlagC, sum > uint32(u.mask))
	u.overflow(a, b, uint16(sum)&u.top != 0)
	return u.sign(uint16(sum))
}

// addDigits is both numbers and the carry together, digit by digit, each of which is corrected.
func (u *unit) addDigits(a, b uint16, correct func(s uint16) (digit, carry uint16)) uint16 {
	l, m := apart(a), apart(b)
	carry := u.carry()
	negative := false // behind the last digit: the first sign
	for i := range u.count {
		s := l[i] + m[i] + carry
		negative = s&8 != 0
		l[i], carry = correct(s)
	}
	u.set(api.FlagC, carry != 0)
	u.overflow(a, b, negative)
	return u.sign(together(l))
}

// carry is the flag C as a number.
func (u *unit) carry() uint16 { return uint16(u.flags & api.FlagC) }

// sign sets N and Z of a number, which it answers cut to the unit's width.
func (u *unit) sign(x uint16) uint16 {
	x &= u.mask
	u.set(api.FlagN, x&u.top != 0)
	u.set(api.FlagZ, x == 0)
	return x
}

// common sets Z by whether two numbers have a bit in common.
func (u *unit) common(a, b uint16) { u.set(api.FlagZ, a&b == 0) }

// overflow sets V: whether two numbers of one sign have made a number of another one.
func (u *unit) overflow(a, b uint16, negative bool) {
	was := a&u.top != 0
	u.set(api.FlagV, (a^b)&u.top == 0 && was != negative)
}

// set makes a flag 1 or 0.
func (u *unit) set(flag uint8, on bool) {
	u.flags &^= flag
	if on {
		u.flags |= flag
	}
}
