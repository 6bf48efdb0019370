package codes

import (
	"strings"

	"lanthorn/api"
)

// Bytes are those of an instruction's text.
func Bytes(s string, pc uint16, p uint8) ([]byte, api.Errno) {
	name, operand, _ := strings.Cut(s, " ")
	l := Named(name)
	if len(l) == 0 {
		return nil, api.ErrWord
	}
	n := digitsOf(operand)
	for _, code := range l {
		// Whatever else the operand has beside its digits, what the bytes say as a text tells whether they are those of s.
		b := bytesWith(code, n, pc, p)
		if text, _, _ := Text(b, pc, p); text == s {
			return b, api.OK
		}
		if modeOf(code) == api.ModeRel && operand == dollar(n, 2) {
			return nil, api.ErrFar
		}
	}
	return nil, api.ErrForm
}

// digitsOf is the number that all small digits to the base 16 within a text make together.
func digitsOf(text string) uint32 {
	n := uint32(0)
	for _, sign := range text {
		switch {
		case sign >= '0' && sign <= '9':
			n = n<<4 | uint32(sign-'0')
		case sign >= 'a' && sign <= 'f':
			n = n<<4 | uint32(sign-'a'+10)
		}
	}
	return n
}

// bytesWith are the bytes of the instruction with a code whose text has the number n, as far as it has one that reaches there.
func bytesWith(code uint8, n uint32, pc uint16, p uint8) []byte {
	size := Size(code, p)
	switch modeOf(code) {
	case api.ModeRel, api.ModeRelLong:
		n -= uint32(pc) + uint32(size)
	case api.ModeMove:
		n = n>>8&0xff | n<<8 // the first byte is the one that is written first
	}
	b := []byte{code}
	for i := range size - 1 {
		b = append(b, uint8(n>>(8*i)))
	}
	return b
}
