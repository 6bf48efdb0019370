package codes

import (
	"strings"

	"lanthorn/alu"
	"lanthorn/api"
)

// forms are how the modes' operands are written, by the modes' numbers: n stands for the operand, t for the address to which it leads, 1 and 2 for its first and its second byte, any other sign for itself. Blanks fill up to formSize.
const (
	formSize = 7
	forms    = "" +
		"       " + "A      " + "#n     " + "t      " + "t      " +
		"n      " + "n,x    " + "n,y    " +
		"(n)    " + "[n]    " + "(n,x)  " + "(n),y  " + "[n],y  " +
		"n      " + "n,x    " + "n,y    " + "n      " + "n,x    " +
		"(n)    " + "[n]    " + "(n,x)  " +
		"n,s    " + "(n,s),y" + "1,2    " + "n      " + "n      "
)

// formOf is how a mode's operand is written; it is empty, if the mode has none.
func formOf(mode uint8) string {
	at := formSize * int(mode)
	return strings.TrimRight(forms[at:at+formSize], " ")
}

// Text is the instruction with which bytes begin, as a text, and how many bytes it has; false: there are too few.
func Text(b []byte, pc uint16, p uint8) (string, int, bool) {
	if len(b) == 0 {
		return "", 0, false
	}
	code := b[0]
	size := Size(code, p)
	if len(b) < size {
		return "", 0, false
	}
	text := nameOf(code)
	if form := formOf(modeOf(code)); form != "" {
		text += " " + operandText(form, b[:size], pc)
	}
	return text, size, true
}

// operandText is the operand of a whole instruction, written in a form.
func operandText(form string, b []byte, pc uint16) string {
	operand := b[1:]
	var t strings.Builder
	for _, sign := range form {
		switch sign {
		case 'n':
			t.WriteString(dollar(number(operand), len(operand)))
		case 't':
			t.WriteString(dollar(uint32(target(b, pc)), 2))
		case '1':
			t.WriteString(dollar(uint32(operand[0]), 1))
		case '2':
			t.WriteString(dollar(uint32(operand[1]), 1))
		default:
			t.WriteRune(sign)
		}
	}
	return t.String()
}

// number is an operand's bytes as a number.
func number(operand []byte) uint32 {
	n := uint32(0)
	for i, x := range operand {
		n |= uint32(x) << (8 * i)
	}
	return n
}

// target is the address to which a branch at pc leads.
func target(b []byte, pc uint16) uint16 {
	way := uint16(number(b[1:]))
	if modeOf(b[0]) == api.ModeRel {
		way = alu.Extend(b[1])
	}
	return pc + uint16(len(b)) + way
}

// dollar is a number of so many bytes as a text.
func dollar(n uint32, bytes int) string {
	const digits = "0123456789abcdef"
	l := []byte{'$'}
	for i := 2*bytes - 1; i >= 0; i-- {
		l = append(l, digits[n>>(4*i)&15])
	}
	return string(l)
}
