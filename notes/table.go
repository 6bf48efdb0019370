package notes

import "strings"

// rows are the codes by their numbers, eight a line: a row is the name and the form, filled up with blanks, and the cycles as a digit to the base 16, a blank behind each.
const (
	nameSize = 5
	formSize = 2
	formAt   = nameSize + 1
	cyclesAt = formAt + formSize + 1
	rowSize  = cyclesAt + 2
	rows     = "" +
		"NOP      2 TCALL t  8 SET1  b  4 BBS   br 5 OR    Ad 3 OR    Aa 4 OR    Ai 3 OR    Al 6 " +
		"OR    A# 2 OR    dd 6 OR1   Cn 5 ASL   d  4 ASL   a  5 PUSH  P  4 TSET1 a  6 BRK      8 " +
		"BPL   r  2 TCALL t  8 CLR1  b  4 BBC   br 5 OR    Ax 4 OR    Ap 5 OR    Aq 5 OR    Am 6 " +
		"OR    d# 5 OR    ij 5 DECW  D  6 ASL   x  5 ASL   A  2 DEC   X  2 CMP   Xa 4 JMP   *  6 " +
		"CLRP     2 TCALL t  8 SET1  b  4 BBS   br 5 AND   Ad 3 AND   Aa 4 AND   Ai 3 AND   Al 6 " +
		"AND   A# 2 AND   dd 6 OR1   C/ 5 ROL   d  4 ROL   a  5 PUSH  A  4 CBNE  dr 5 BRA   r  2 " +
		"BMI   r  2 TCALL t  8 CLR1  b  4 BBC   br 5 AND   Ax 4 AND   Ap 5 AND   Aq 5 AND   Am 6 " +
		"AND   d# 5 AND   ij 5 INCW  D  6 ROL   x  5 ROL   A  2 INC   X  2 CMP   Xd 3 CALL  a  8 " +
		"SETP     2 TCALL t  8 SET1  b  4 BBS   br 5 EOR   Ad 3 EOR   Aa 4 EOR   Ai 3 EOR   Al 6 " +
		"EOR   A# 2 EOR   dd 6 AND1  Cn 4 LSR   d  4 LSR   a  5 PUSH  X  4 TCLR1 a  6 PCALL u  6 " +
		"BVC   r  2 TCALL t  8 CLR1  b  4 BBC   br 5 EOR   Ax 4 EOR   Ap 5 EOR   Aq 5 EOR   Am 6 " +
		"EOR   d# 5 EOR   ij 5 CMPW  WD 4 LSR   x  5 LSR   A  2 MOV   XA 2 CMP   Ya 4 JMP   a  3 " +
		"CLRC     2 TCALL t  8 SET1  b  4 BBS   br 5 CMP   Ad 3 CMP   Aa 4 CMP   Ai 3 CMP   Al 6 " +
		"CMP   A# 2 CMP   dd 6 AND1  C/ 4 ROR   d  4 ROR   a  5 PUSH  Y  4 DBNZ  dr 5 RET      5 " +
		"BVS   r  2 TCALL t  8 CLR1  b  4 BBC   br 5 CMP   Ax 4 CMP   Ap 5 CMP   Aq 5 CMP   Am 6 " +
		"CMP   d# 5 CMP   ij 5 ADDW  WD 5 ROR   x  5 ROR   A  2 MOV   AX 2 CMP   Yd 3 RETI     6 " +
		"SETC     2 TCALL t  8 SET1  b  4 BBS   br 5 ADC   Ad 3 ADC   Aa 4 ADC   Ai 3 ADC   Al 6 " +
		"ADC   A# 2 ADC   dd 6 EOR1  Cn 5 DEC   d  4 DEC   a  5 MOV   Y# 2 POP   P  4 MOV   d# 5 " +
		"BCC   r  2 TCALL t  8 CLR1  b  4 BBC   br 5 ADC   Ax 4 ADC   Ap 5 ADC   Aq 5 ADC   Am 6 " +
		"ADC   d# 5 ADC   ij 5 SUBW  WD 5 DEC   x  5 DEC   A  2 MOV   XS 2 DIV      C XCN   A  5 " +
		"EI       3 TCALL t  8 SET1  b  4 BBS   br 5 SBC   Ad 3 SBC   Aa 4 SBC   Ai 3 SBC   Al 6 " +
		"SBC   A# 2 SBC   dd 6 MOV1  Cn 4 INC   d  4 INC   a  5 CMP   Y# 2 POP   A  4 MOV   +A 4 " +
		"BCS   r  2 TCALL t  8 CLR1  b  4 BBC   br 5 SBC   Ax 4 SBC   Ap 5 SBC   Aq 5 SBC   Am 6 " +
		"SBC   d# 5 SBC   ij 5 MOVW  WD 5 INC   x  5 INC   A  2 MOV   SX 2 DAS   A  3 MOV   A+ 4 " +
		"DI       3 TCALL t  8 SET1  b  4 BBS   br 5 MOV   dA 4 MOV   aA 5 MOV   iA 4 MOV   lA 7 " +
		"CMP   X# 2 MOV   aX 5 MOV1  nC 6 MOV   dY 4 MOV   aY 5 MOV   X# 2 POP   X  4 MUL      9 " +
		"BNE   r  2 TCALL t  8 CLR1  b  4 BBC   br 5 MOV   xA 5 MOV   pA 6 MOV   qA 6 MOV   mA 7 " +
		"MOV   dX 4 MOV   yX 5 MOVW  DW 5 MOV   xY 5 DEC   Y  2 MOV   AY 2 CBNE  xr 6 DAA   A  3 " +
		"CLRV     2 TCALL t  8 SET1  b  4 BBS   br 5 MOV   Ad 3 MOV   Aa 4 MOV   Ai 3 MOV   Al 6 " +
		"MOV   A# 2 MOV   Xa 4 NOT1  n  5 MOV   Yd 3 MOV   Ya 4 NOTC     3 POP   Y  4 SLEEP    3 " +
		"BEQ   r  2 TCALL t  8 CLR1  b  4 BBC   br 5 MOV   Ax 4 MOV   Ap 5 MOV   Aq 5 MOV   Am 6 " +
		"MOV   Xd 3 MOV   Xy 4 MOV   dd 5 MOV   Yx 4 INC   Y  2 MOV   YA 2 DBNZ  Yr 4 STOP     3 "
)

// digits are those to the base 16.
const digits = "0123456789ABCDEF"

// rowOf is a code's name, form and cycles.
func rowOf(code uint8) (name, form string, cycles int) {
	row := rows[rowSize*int(code):][:rowSize]
	name, form = row[:nameSize], row[formAt:formAt+formSize]
	cycles = strings.IndexByte(digits, row[cyclesAt])
	return strings.TrimRight(name, " "), strings.TrimRight(form, " "), cycles
}
