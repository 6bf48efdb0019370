package notes_test

import (
	"fmt"
	"strconv"
	"strings"

	"lanthorn/api"
)

// tableText is the chapter's table: name, form, cycles, by the upper and the lower four bits.
const tableText = `
| 0 | NOP 2 | TCALL t 8 | SET1 b 4 | BBS br 5 | OR Ad 3 | OR Aa 4 | OR Ai 3 | OR Al 6 | OR A# 2 | OR dd 6 | OR1 Cn 5 | ASL d 4 | ASL a 5 | PUSH P 4 | TSET1 a 6 | BRK 8 |
| 1 | BPL r 2 | TCALL t 8 | CLR1 b 4 | BBC br 5 | OR Ax 4 | OR Ap 5 | OR Aq 5 | OR Am 6 | OR d# 5 | OR ij 5 | DECW D 6 | ASL x 5 | ASL A 2 | DEC X 2 | CMP Xa 4 | JMP * 6 |
| 2 | CLRP 2 | TCALL t 8 | SET1 b 4 | BBS br 5 | AND Ad 3 | AND Aa 4 | AND Ai 3 | AND Al 6 | AND A# 2 | AND dd 6 | OR1 C/ 5 | ROL d 4 | ROL a 5 | PUSH A 4 | CBNE dr 5 | BRA r 2 |
| 3 | BMI r 2 | TCALL t 8 | CLR1 b 4 | BBC br 5 | AND Ax 4 | AND Ap 5 | AND Aq 5 | AND Am 6 | AND d# 5 | AND ij 5 | INCW D 6 | ROL x 5 | ROL A 2 | INC X 2 | CMP Xd 3 | CALL a 8 |
| 4 | SETP 2 | TCALL t 8 | SET1 b 4 | BBS br 5 | EOR Ad 3 | EOR Aa 4 | EOR Ai 3 | EOR Al 6 | EOR A# 2 | EOR dd 6 | AND1 Cn 4 | LSR d 4 | LSR a 5 | PUSH X 4 | TCLR1 a 6 | PCALL u 6 |
| 5 | BVC r 2 | TCALL t 8 | CLR1 b 4 | BBC br 5 | EOR Ax 4 | EOR Ap 5 | EOR Aq 5 | EOR Am 6 | EOR d# 5 | EOR ij 5 | CMPW WD 4 | LSR x 5 | LSR A 2 | MOV XA 2 | CMP Ya 4 | JMP a 3 |
| 6 | CLRC 2 | TCALL t 8 | SET1 b 4 | BBS br 5 | CMP Ad 3 | CMP Aa 4 | CMP Ai 3 | CMP Al 6 | CMP A# 2 | CMP dd 6 | AND1 C/ 4 | ROR d 4 | ROR a 5 | PUSH Y 4 | DBNZ dr 5 | RET 5 |
| 7 | BVS r 2 | TCALL t 8 | CLR1 b 4 | BBC br 5 | CMP Ax 4 | CMP Ap 5 | CMP Aq 5 | CMP Am 6 | CMP d# 5 | CMP ij 5 | ADDW WD 5 | ROR x 5 | ROR A 2 | MOV AX 2 | CMP Yd 3 | RETI 6 |
| 8 | SETC 2 | TCALL t 8 | SET1 b 4 | BBS br 5 | ADC Ad 3 | ADC Aa 4 | ADC Ai 3 | ADC Al 6 | ADC A# 2 | ADC dd 6 | EOR1 Cn 5 | DEC d 4 | DEC a 5 | MOV Y# 2 | POP P 4 | MOV d# 5 |
| 9 | BCC r 2 | TCALL t 8 | CLR1 b 4 | BBC br 5 | ADC Ax 4 | ADC Ap 5 | ADC Aq 5 | ADC Am 6 | ADC d# 5 | ADC ij 5 | SUBW WD 5 | DEC x 5 | DEC A 2 | MOV XS 2 | DIV 12 | XCN A 5 |
| A | EI 3 | TCALL t 8 | SET1 b 4 | BBS br 5 | SBC Ad 3 | SBC Aa 4 | SBC Ai 3 | SBC Al 6 | SBC A# 2 | SBC dd 6 | MOV1 Cn 4 | INC d 4 | INC a 5 | CMP Y# 2 | POP A 4 | MOV +A 4 |
| B | BCS r 2 | TCALL t 8 | CLR1 b 4 | BBC br 5 | SBC Ax 4 | SBC Ap 5 | SBC Aq 5 | SBC Am 6 | SBC d# 5 | SBC ij 5 | MOVW WD 5 | INC x 5 | INC A 2 | MOV SX 2 | DAS A 3 | MOV A+ 4 |
| C | DI 3 | TCALL t 8 | SET1 b 4 | BBS br 5 | MOV dA 4 | MOV aA 5 | MOV iA 4 | MOV lA 7 | CMP X# 2 | MOV aX 5 | MOV1 nC 6 | MOV dY 4 | MOV aY 5 | MOV X# 2 | POP X 4 | MUL 9 |
| D | BNE r 2 | TCALL t 8 | CLR1 b 4 | BBC br 5 | MOV xA 5 | MOV pA 6 | MOV qA 6 | MOV mA 7 | MOV dX 4 | MOV yX 5 | MOVW DW 5 | MOV xY 5 | DEC Y 2 | MOV AY 2 | CBNE xr 6 | DAA A 3 |
| E | CLRV 2 | TCALL t 8 | SET1 b 4 | BBS br 5 | MOV Ad 3 | MOV Aa 4 | MOV Ai 3 | MOV Al 6 | MOV A# 2 | MOV Xa 4 | NOT1 n 5 | MOV Yd 3 | MOV Ya 4 | NOTC 3 | POP Y 4 | SLEEP 3 |
| F | BEQ r 2 | TCALL t 8 | CLR1 b 4 | BBC br 5 | MOV Ax 4 | MOV Ap 5 | MOV Aq 5 | MOV Am 6 | MOV Xd 3 | MOV Xy 4 | MOV dd 5 | MOV Yx 4 | INC Y 2 | MOV YA 2 | DBNZ Yr 4 | STOP 3 |
`

// table is the chapter's table, told by its words.
var table = readTable()

func readTable() []api.Note {
	var l []api.Note
	for _, line := range strings.Split(strings.TrimSpace(tableText), "\n") {
		for _, cell := range strings.Split(line, "|")[2:18] {
			w := strings.Fields(cell)
			c := api.Note{Code: uint8(len(l)), Name: w[0], Size: 1}
			if len(w) == 3 {
				c.Form = w[1]
			}
			for _, letter := range c.Form {
				c.Size += naiveWidth(letter)
			}
			cycles, err := strconv.Atoi(w[len(w)-1])
			if err != nil {
				panic("the table of the test is broken at " + cell)
			}
			c.Cycles = cycles
			l = append(l, c)
		}
	}
	return l
}

// naiveWidth is how many bytes stand for a letter.
func naiveWidth(letter rune) int {
	switch {
	case strings.ContainsRune("#dxyDlmrbu", letter):
		return 1
	case strings.ContainsRune("apq*n/", letter):
		return 2
	}
	return 0
}

// naiveText is the text of an instruction that is whole: the bytes are taken one behind the other, and each operand is laid where it is written.
func naiveText(b []byte, at uint16) string {
	c := table[b[0]]
	taken := 1
	take := func(letter byte) string {
		n := 0
		for i := range naiveWidth(rune(letter)) {
			n += int(b[taken]) << (8 * i)
			taken++
		}
		return naiveOperand(c, letter, n, int(at)+c.Size)
	}
	texts := make([]string, len(c.Form))
	if strings.HasSuffix(c.Form, "r") {
		for i := range texts {
			texts[i] = take(c.Form[i])
		}
	} else {
		for i := len(texts) - 1; i >= 0; i-- {
			texts[i] = take(c.Form[i])
		}
	}
	return strings.TrimSpace(c.Name + " " + strings.Join(texts, ","))
}

// naiveOperand is an operand as it is written, n being its bytes as a number, behind the address behind its instruction.
func naiveOperand(c api.Note, letter byte, n, behind int) string {
	switch letter {
	case 'A', 'X', 'Y', 'C':
		return string(letter)
	case 'W':
		return "YA"
	case 'S':
		return "SP"
	case 'P':
		return "PSW"
	case '#':
		return fmt.Sprintf("#%02X", n)
	case 'd', 'D':
		return fmt.Sprintf("%02X", n)
	case 'x':
		return fmt.Sprintf("%02X+X", n)
	case 'y':
		return fmt.Sprintf("%02X+Y", n)
	case 'i':
		return "(X)"
	case 'j':
		return "(Y)"
	case '+':
		return "(X)+"
	case 'a':
		return fmt.Sprintf("!%04X", n)
	case 'p':
		return fmt.Sprintf("!%04X+X", n)
	case 'q':
		return fmt.Sprintf("!%04X+Y", n)
	case 'l':
		return fmt.Sprintf("[%02X+X]", n)
	case 'm':
		return fmt.Sprintf("[%02X]+Y", n)
	case '*':
		return fmt.Sprintf("[!%04X+X]", n)
	case 'r':
		return fmt.Sprintf("%04X", (behind+n-n/128*256+65536)%65536)
	case 'b':
		return fmt.Sprintf("%02X.%d", n, c.Code/32)
	case 'n':
		return fmt.Sprintf("%04X.%d", n%8192, n/8192)
	case '/':
		return fmt.Sprintf("/%04X.%d", n%8192, n/8192)
	case 'u':
		return fmt.Sprintf("FF%02X", n)
	case 't':
		return fmt.Sprint(c.Code / 16)
	}
	panic("the table of the test has a letter that is none")
}

// naiveList is the list of bytes.
func naiveList(b []byte, at uint16) []string {
	var l []string
	i := 0
	for i < len(b) && i+table[b[i]].Size <= len(b) {
		l = append(l, fmt.Sprintf("%04X %s", at+uint16(i), naiveText(b[i:], at+uint16(i))))
		i += table[b[i]].Size
	}
	for ; i < len(b); i++ {
		l = append(l, fmt.Sprintf("%04X ? %02X", at+uint16(i), b[i]))
	}
	return l
}
