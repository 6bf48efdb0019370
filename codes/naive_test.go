package codes_test

import (
	"fmt"
	"regexp"
	"slices"
	"strconv"
	"strings"

	"lanthorn/api"
)

// tableText is the chapter's table: number, name, sign.
const tableText = `
00 BRK sig | 01 ORA (d,x) | 02 COP sig | 03 ORA d,s | 04 TSB d | 05 ORA d | 06 ASL d | 07 ORA [d]
08 PHP | 09 ORA # | 0a ASL A | 0b PHD | 0c TSB a | 0d ORA a | 0e ASL a | 0f ORA l
10 BPL r | 11 ORA (d),y | 12 ORA (d) | 13 ORA (d,s),y | 14 TRB d | 15 ORA d,x | 16 ASL d,x | 17 ORA [d],y
18 CLC | 19 ORA a,y | 1a INC A | 1b TCS | 1c TRB a | 1d ORA a,x | 1e ASL a,x | 1f ORA l,x
20 JSR a | 21 AND (d,x) | 22 JSL l | 23 AND d,s | 24 BIT d | 25 AND d | 26 ROL d | 27 AND [d]
28 PLP | 29 AND # | 2a ROL A | 2b PLD | 2c BIT a | 2d AND a | 2e ROL a | 2f AND l
30 BMI r | 31 AND (d),y | 32 AND (d) | 33 AND (d,s),y | 34 BIT d,x | 35 AND d,x | 36 ROL d,x | 37 AND [d],y
38 SEC | 39 AND a,y | 3a DEC A | 3b TSC | 3c BIT a,x | 3d AND a,x | 3e ROL a,x | 3f AND l,x
40 RTI | 41 EOR (d,x) | 42 WDM sig | 43 EOR d,s | 44 MVP mv | 45 EOR d | 46 LSR d | 47 EOR [d]
48 PHA | 49 EOR # | 4a LSR A | 4b PHK | 4c JMP a | 4d EOR a | 4e LSR a | 4f EOR l
50 BVC r | 51 EOR (d),y | 52 EOR (d) | 53 EOR (d,s),y | 54 MVN mv | 55 EOR d,x | 56 LSR d,x | 57 EOR [d],y
58 CLI | 59 EOR a,y | 5a PHY | 5b TCD | 5c JML l | 5d EOR a,x | 5e LSR a,x | 5f EOR l,x
60 RTS | 61 ADC (d,x) | 62 PER rl | 63 ADC d,s | 64 STZ d | 65 ADC d | 66 ROR d | 67 ADC [d]
68 PLA | 69 ADC # | 6a ROR A | 6b RTL | 6c JMP (a) | 6d ADC a | 6e ROR a | 6f ADC l
70 BVS r | 71 ADC (d),y | 72 ADC (d) | 73 ADC (d,s),y | 74 STZ d,x | 75 ADC d,x | 76 ROR d,x | 77 ADC [d],y
78 SEI | 79 ADC a,y | 7a PLY | 7b TDC | 7c JMP (a,x) | 7d ADC a,x | 7e ROR a,x | 7f ADC l,x
80 BRA r | 81 STA (d,x) | 82 BRL rl | 83 STA d,s | 84 STY d | 85 STA d | 86 STX d | 87 STA [d]
88 DEY | 89 BIT # | 8a TXA | 8b PHB | 8c STY a | 8d STA a | 8e STX a | 8f STA l
90 BCC r | 91 STA (d),y | 92 STA (d) | 93 STA (d,s),y | 94 STY d,x | 95 STA d,x | 96 STX d,y | 97 STA [d],y
98 TYA | 99 STA a,y | 9a TXS | 9b TXY | 9c STZ a | 9d STA a,x | 9e STZ a,x | 9f STA l,x
a0 LDY # | a1 LDA (d,x) | a2 LDX # | a3 LDA d,s | a4 LDY d | a5 LDA d | a6 LDX d | a7 LDA [d]
a8 TAY | a9 LDA # | aa TAX | ab PLB | ac LDY a | ad LDA a | ae LDX a | af LDA l
b0 BCS r | b1 LDA (d),y | b2 LDA (d) | b3 LDA (d,s),y | b4 LDY d,x | b5 LDA d,x | b6 LDX d,y | b7 LDA [d],y
b8 CLV | b9 LDA a,y | ba TSX | bb TYX | bc LDY a,x | bd LDA a,x | be LDX a,y | bf LDA l,x
c0 CPY # | c1 CMP (d,x) | c2 REP # | c3 CMP d,s | c4 CPY d | c5 CMP d | c6 DEC d | c7 CMP [d]
c8 INY | c9 CMP # | ca DEX | cb WAI | cc CPY a | cd CMP a | ce DEC a | cf CMP l
d0 BNE r | d1 CMP (d),y | d2 CMP (d) | d3 CMP (d,s),y | d4 PEI (d) | d5 CMP d,x | d6 DEC d,x | d7 CMP [d],y
d8 CLD | d9 CMP a,y | da PHX | db STP | dc JML [a] | dd CMP a,x | de DEC a,x | df CMP l,x
e0 CPX # | e1 SBC (d,x) | e2 SEP # | e3 SBC d,s | e4 CPX d | e5 SBC d | e6 INC d | e7 SBC [d]
e8 INX | e9 SBC # | ea NOP | eb XBA | ec CPX a | ed SBC a | ee INC a | ef SBC l
f0 BEQ r | f1 SBC (d),y | f2 SBC (d) | f3 SBC (d,s),y | f4 PEA w | f5 SBC d,x | f6 INC d,x | f7 SBC [d],y
f8 SED | f9 SBC a,y | fa PLX | fb XCE | fc JSR (a,x) | fd SBC a,x | fe INC a,x | ff SBC l,x
`

// signs are the modes' signs, in their order.
var signs = []string{"", "A", "#", "r", "rl", "d", "d,x", "d,y", "(d)", "[d]", "(d,x)", "(d),y", "[d],y", "a", "a,x", "a,y", "l", "l,x", "(a)", "[a]", "(a,x)", "d,s", "(d,s),y", "mv", "sig", "w"}

// The names by what the chapter says of them.
var (
	widthM    = strings.Fields("ORA AND EOR ADC STA LDA CMP SBC BIT ASL ROL LSR ROR INC DEC TSB TRB STZ")
	widthX    = strings.Fields("LDX LDY STX STY CPX CPY")
	widthByte = strings.Fields("REP SEP")
	useRead   = strings.Fields("ORA AND EOR ADC LDA CMP SBC BIT LDX LDY CPX CPY")
	useWrite  = strings.Fields("STA STX STY STZ")
	useChange = strings.Fields("ASL ROL LSR ROR INC DEC TSB TRB")
)

// table is the chapter's table, told by its words.
var table = readTable()

func readTable() []api.Code {
	var l []api.Code
	for _, cell := range strings.FieldsFunc(tableText, func(r rune) bool { return r == '|' || r == '\n' }) {
		w := append(strings.Fields(cell), "")
		if len(w) == 1 {
			continue
		}
		n, err := strconv.ParseUint(w[0], 16, 8)
		if err != nil || int(n) != len(l) {
			panic("the table of the test is broken at " + cell)
		}
		c := api.Code{Code: uint8(n), Name: w[1], Mode: uint8(slices.Index(signs, w[2]))}
		c.Width = firstList(c.Name, widthM, widthX, widthByte)
		if c.Mode > api.ModeImm && c.Width != api.WidthNone {
			c.Use = firstList(c.Name, useRead, useWrite, useChange)
		}
		l = append(l, c)
	}
	return l
}

// firstList is the number, from 1 on, of the list that has a name; 0, if none has it.
func firstList(name string, lists ...[]string) uint8 {
	for i, l := range lists {
		if slices.Contains(l, name) {
			return uint8(i + 1)
		}
	}
	return 0
}

// naiveOperand is how many bytes stand behind a code.
func naiveOperand(c api.Code, p uint8) int {
	switch signs[c.Mode] {
	case "", "A":
		return 0
	case "#":
		if c.Width == api.WidthM && p&0x20 == 0 || c.Width == api.WidthX && p&0x10 == 0 {
			return 2
		}
		return 1
	case "l", "l,x":
		return 3
	case "rl", "a", "a,x", "a,y", "(a)", "[a]", "(a,x)", "mv", "w":
		return 2
	}
	return 1
}

// naiveText is the text of an instruction that is whole.
func naiveText(b []byte, pc uint16, p uint8) string {
	c := table[b[0]]
	n := naiveOperand(c, p)
	number := 0
	for i := n; i > 0; i-- {
		number = number*256 + int(b[i])
	}
	switch signs[c.Mode] {
	case "":
		return c.Name
	case "r":
		return fmt.Sprintf("%s $%04x", c.Name, uint16(int(pc)+2+int(int8(number))))
	case "rl":
		return fmt.Sprintf("%s $%04x", c.Name, uint16(int(pc)+3+number))
	case "mv":
		return fmt.Sprintf("%s $%02x,$%02x", c.Name, b[1], b[2])
	}
	digits := fmt.Sprintf("$%0*x", 2*n, number)
	r := strings.NewReplacer("#", "#"+digits, "sig", digits, "d", digits, "a", digits, "l", digits, "w", digits)
	return c.Name + " " + r.Replace(signs[c.Mode])
}

// naiveBytes are the bytes of a text.
func naiveBytes(s string, pc uint16, p uint8) ([]byte, api.Errno) {
	e := api.ErrWord
	for _, c := range table {
		if c.Name != strings.Split(s, " ")[0] {
			continue
		}
		if e == api.ErrWord {
			e = api.ErrForm
		}
		l := patternOf(c, p).FindStringSubmatch(s)
		if l == nil {
			continue
		}
		if b, ok := naiveLaid(c, l[1:], pc); ok {
			return b, api.OK
		}
		e = api.ErrFar
	}
	return nil, e
}

// patterns are those of each code that were made already, by its flags.
var patterns = map[[2]uint8]*regexp.Regexp{}

// patternOf is what texts of a code look like.
func patternOf(c api.Code, p uint8) *regexp.Regexp {
	key := [2]uint8{c.Code, p & 0x30}
	if patterns[key] == nil {
		patterns[key] = regexp.MustCompile(`\A` + c.Name + operandPattern(signs[c.Mode], naiveOperand(c, p)) + `\z`)
	}
	return patterns[key]
}

func operandPattern(sign string, bytes int) string {
	const two = `\$([0-9a-f]{2})`
	number := fmt.Sprintf(`\$([0-9a-f]{%d})`, 2*bytes)
	switch sign {
	case "":
		return ""
	case "r", "rl":
		return ` \$([0-9a-f]{4})`
	case "mv":
		return " " + two + "," + two
	}
	r := strings.NewReplacer("#", "#"+number, "sig", number, "d", number, "a", number, "l", number, "w", number)
	for _, bracket := range []string{"(", ")", "[", "]"} {
		sign = strings.ReplaceAll(sign, bracket, `\`+bracket)
	}
	return " " + r.Replace(sign)
}

// naiveLaid are the bytes of a code with these numbers in its text; false: it is too far.
func naiveLaid(c api.Code, numbers []string, pc uint16) ([]byte, bool) {
	b := []byte{c.Code}
	for _, s := range numbers {
		n, _ := strconv.ParseUint(s, 16, 32)
		switch signs[c.Mode] {
		case "r":
			way := int16(uint16(n) - pc - 2)
			if way < -128 || way > 127 {
				return nil, false
			}
			n, s = uint64(uint8(way)), "12"
		case "rl":
			n = uint64(uint16(n) - pc - 3)
		}
		for range len(s) / 2 {
			b = append(b, uint8(n))
			n >>= 8
		}
	}
	return b, true
}
