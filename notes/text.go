package notes

import (
	"strconv"
	"strings"

	"lanthorn/api"
)

// Text is the first instruction of bytes, as it is written, and how many bytes it has.
func Text(b []byte, at uint16) (string, int, api.Errno) {
	c, ok := first(b)
	if !ok {
		return "", 0, api.ErrNone
	}
	return written(c, b, at, writers()), c.Size, api.OK
}

// List is all instructions of bytes, line by line.
func List(b []byte, at uint16) []string {
	var lines []string
	w := writers()
	for c, ok := first(b); ok; c, ok = first(b) {
		lines = append(lines, hex(at, 4)+" "+written(c, b, at, w))
		b = b[c.Size:]
		at += uint16(c.Size)
	}
	// What is left is no instruction as a whole, though a later byte of it may look like one.
	for _, x := range b {
		lines = append(lines, hex(at, 4)+" ? "+hex(uint16(x), 2))
		at++
	}
	return lines
}

// first is the code of the instruction with which bytes begin; false: they do not hold all of it.
func first(b []byte) (api.Note, bool) {
	if len(b) == 0 {
		return api.Note{}, false
	}
	c := Of(b[0])
	return c, len(b) >= c.Size
}

// written is the instruction with a code, with which bytes begin, as it is written.
func written(c api.Note, b []byte, at uint16, w map[rune]writer) string {
	var t strings.Builder
	t.WriteString(c.Name)
	before := " "
	for i, letter := range c.Form {
		t.WriteString(before)
		t.WriteString(w[letter](operand{c.Code, number(c.Form, i, b), at + uint16(c.Size)}))
		before = ","
	}
	return t.String()
}

// number is the bytes of the operand at a place of a form as a number, lower byte first.
func number(form string, i int, b []byte) uint16 {
	ahead := form[i+1:]
	if strings.Contains(form, "r") {
		// Where a branch leads stands last in its form and in its bytes alike.
		ahead = form[:i]
	}
	b = b[1+bytesOf(ahead):]
	switch Width(form[i]) {
	case 1:
		return uint16(b[0])
	case 2:
		return uint16(b[0]) | uint16(b[1])<<8
	}
	return 0
}

// operand is what an operand is written by: its instruction's code, its bytes as a number, the address behind its instruction.
type operand struct {
	code      uint8
	n, behind uint16
}

// writer writes an operand.
type writer func(operand) string

// writers are the writers of all letters.
func writers() map[rune]writer {
	same := func(text string) writer {
		return func(operand) string { return text }
	}
	around := func(before string, size int, behind string) writer {
		return func(o operand) string { return before + hex(o.n, size) + behind }
	}
	bit := func(before string) writer {
		return func(o operand) string {
			return before + hex(o.n&0x1fff, 4) + "." + strconv.Itoa(int(o.n>>13))
		}
	}
	return map[rune]writer{
		'A': same("A"), 'X': same("X"), 'Y': same("Y"), 'W': same("YA"), 'C': same("C"), 'S': same("SP"), 'P': same("PSW"),
		'i': same("(X)"), 'j': same("(Y)"), '+': same("(X)+"),
		'#': around("#", 2, ""), 'd': around("", 2, ""), 'D': around("", 2, ""), 'x': around("", 2, "+X"), 'y': around("", 2, "+Y"),
		'l': around("[", 2, "+X]"), 'm': around("[", 2, "]+Y"), 'u': around("FF", 2, ""),
		'a': around("!", 4, ""), 'p': around("!", 4, "+X"), 'q': around("!", 4, "+Y"), '*': around("[!", 4, "+X]"),
		'n': bit(""), '/': bit("/"),
		'b': func(o operand) string { return hex(o.n, 2) + "." + strconv.Itoa(int(o.code>>5)) },
		't': func(o operand) string { return strconv.Itoa(int(o.code >> 4)) },
		'r': func(o operand) string { return hex(o.behind+uint16(int8(o.n)), 4) },
	}
}

// hex is a number in so many digits.
func hex(n uint16, size int) string {
	l := make([]byte, size)
	for i := range l {
		l[size-1-i] = digits[n>>(4*i)&15]
	}
	return string(l)
}
