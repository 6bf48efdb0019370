package alu_test

import "lanthorn/api"

// naive is the chapter's table once more, row by row, of numbers that have no width of their own.
func naive(op uint8, a, b int, p uint8, wide bool) (int, uint8) {
	top := 1 << 7
	if wide {
		top = 1 << 15
	}
	all := 2 * top
	carry := int(p & 1)
	turned := all - 1 - b
	nz := func(x int) (int, uint8) {
		p = lay(p, api.FlagN, x >= top)
		p = lay(p, api.FlagZ, x == 0)
		return x, p
	}
	sum := func(b int) (int, uint8) {
		x := (a + b + carry) % all
		p = lay(p, api.FlagC, a+b+carry >= all)
		p = lay(p, api.FlagV, a/top == b/top && a/top != x/top)
		return nz(x)
	}
	switch op {
	case api.AluOr:
		return nz(a | b)
	case api.AluAnd:
		return nz(a & b)
	case api.AluXor:
		return nz(a ^ b)
	case api.AluAdd, api.AluSub:
		less := op == api.AluSub
		with := b
		if less {
			with = turned
		}
		if p&api.FlagD == 0 {
			return sum(with)
		}
		x, last, sign := naiveDigits(a, b, carry, wide, less)
		p = lay(p, api.FlagC, last == 1)
		p = lay(p, api.FlagV, a/top == with/top && sign != a/top)
		return nz(x)
	case api.AluCmp:
		p = lay(p, api.FlagC, !(a < b))
		_, p = nz((a - b + all) % all)
		return a, p
	case api.AluBit:
		p = lay(p, api.FlagZ, a&b == 0)
		p = lay(p, api.FlagN, b/top == 1)
		return a, lay(p, api.FlagV, b/(top/2)%2 == 1)
	case api.AluLoad:
		return nz(b)
	case api.AluAsl:
		p = lay(p, api.FlagC, a/top == 1)
		return nz(a * 2 % all)
	case api.AluRol:
		p = lay(p, api.FlagC, a/top == 1)
		return nz(a*2%all + carry)
	case api.AluLsr:
		p = lay(p, api.FlagC, a%2 == 1)
		return nz(a / 2)
	case api.AluRor:
		p = lay(p, api.FlagC, a%2 == 1)
		return nz(a/2 + carry*top)
	case api.AluInc:
		return nz((a + 1) % all)
	case api.AluDec:
		return nz((a + all - 1) % all)
	case api.AluTsb:
		return a | b, lay(p, api.FlagZ, a&b == 0)
	case api.AluTrb:
		return b - b&a, lay(p, api.FlagZ, a&b == 0)
	}
	return a, lay(p, api.FlagZ, a&b == 0)
}

func lay(p, flag uint8, on bool) uint8 {
	if on {
		return p | flag
	}
	return p &^ flag
}

// naiveDigits are the chapter's words of the sum and the difference of digits: the number, the last carry, the first sign.
func naiveDigits(a, b, c int, wide, less bool) (x, last, sign int) {
	count := 2
	if wide {
		count = 4
	}
	worth := 1
	for range count {
		s := a/worth%16 + b/worth%16 + c
		if less {
			s = a/worth%16 + (15 - b/worth%16) + c
		}
		sign = s / 8 % 2
		t := s
		switch {
		case less && s <= 15:
			t, c = s-6, 0
		case less:
			c = 1
		case s > 9:
			t = s + 6
			fallthrough
		default:
			c = 0
			if t > 15 {
				c = 1
			}
		}
		x += (t + 16) % 16 * worth
		worth *= 16
	}
	return x, c, sign
}
