package codes

import "lanthorn/api"

// names are the codes' names by their numbers, in rows of sixteen; nameStep is how far one stands behind the other.
const (
	nameSize = 3
	nameStep = nameSize + 1
	names    = "" +
		"BRK ORA COP ORA TSB ORA ASL ORA PHP ORA ASL PHD TSB ORA ASL ORA " +
		"BPL ORA ORA ORA TRB ORA ASL ORA CLC ORA INC TCS TRB ORA ASL ORA " +
		"JSR AND JSL AND BIT AND ROL AND PLP AND ROL PLD BIT AND ROL AND " +
		"BMI AND AND AND BIT AND ROL AND SEC AND DEC TSC BIT AND ROL AND " +
		"RTI EOR WDM EOR MVP EOR LSR EOR PHA EOR LSR PHK JMP EOR LSR EOR " +
		"BVC EOR EOR EOR MVN EOR LSR EOR CLI EOR PHY TCD JML EOR LSR EOR " +
		"RTS ADC PER ADC STZ ADC ROR ADC PLA ADC ROR RTL JMP ADC ROR ADC " +
		"BVS ADC ADC ADC STZ ADC ROR ADC SEI ADC PLY TDC JMP ADC ROR ADC " +
		"BRA STA BRL STA STY STA STX STA DEY BIT TXA PHB STY STA STX STA " +
		"BCC STA STA STA STY STA STX STA TYA STA TXS TXY STZ STA STZ STA " +
		"LDY LDA LDX LDA LDY LDA LDX LDA TAY LDA TAX PLB LDY LDA LDX LDA " +
		"BCS LDA LDA LDA LDY LDA LDX LDA CLV LDA TSX TYX LDY LDA LDX LDA " +
		"CPY CMP REP CMP CPY CMP DEC CMP INY CMP DEX WAI CPY CMP DEC CMP " +
		"BNE CMP CMP CMP PEI CMP DEC CMP CLD CMP PHX STP JML CMP DEC CMP " +
		"CPX SBC SEP SBC CPX SBC INC SBC INX SBC NOP XBA CPX SBC INC SBC " +
		"BEQ SBC SBC SBC PEA SBC INC SBC SED SBC PLX XCE JSR SBC INC SBC "
)

// modes are the codes' modes by their numbers, in rows of sixteen: firstMode is the mode 0, the letter behind it the mode 1, and so on.
const (
	firstMode = 'a'
	modes     = "" +
		"ykyvfffjacbannnq" +
		"dliwfggmapbanoor" +
		"nkqvfffjacbannnq" +
		"dliwgggmapbaooor" +
		"akyvxffjacbannnq" +
		"dliwxggmapaaqoor" +
		"akevfffjacbasnnq" +
		"dliwgggmapaauoor" +
		"dkevfffjacaannnq" +
		"dliwgghmapaanoor" +
		"ckcvfffjacaannnq" +
		"dliwgghmapaaoopr" +
		"ckcvfffjacaannnq" +
		"dliwiggmapaatoor" +
		"ckcvfffjacaannnq" +
		"dliwzggmapaauoor"
)

// nameOf is a code's name.
func nameOf(code uint8) string {
	at := nameStep * int(code)
	return names[at : at+nameSize]
}

// modeOf is a code's mode.
func modeOf(code uint8) uint8 { return modes[code] - firstMode }

// widthOf is by what the operand of a name is narrow or wide.
func widthOf(name string) uint8 {
	switch name {
	case "ORA", "AND", "EOR", "ADC", "STA", "LDA", "CMP", "SBC", "BIT",
		"ASL", "ROL", "LSR", "ROR", "INC", "DEC", "TSB", "TRB", "STZ":
		return api.WidthM
	case "LDX", "LDY", "STX", "STY", "CPX", "CPY":
		return api.WidthX
	case "REP", "SEP":
		return api.WidthByte
	}
	return api.WidthNone
}

// useOf is what a name does with the memory to which a mode leads, if it leads to one.
func useOf(name string, mode uint8) uint8 {
	switch mode {
	case api.ModeNone, api.ModeA, api.ModeImm:
		return api.UseNone
	}
	switch name {
	case "ORA", "AND", "EOR", "ADC", "LDA", "CMP", "SBC", "BIT", "LDX", "LDY", "CPX", "CPY":
		return api.UseRead
	case "STA", "STX", "STY", "STZ":
		return api.UseWrite
	case "ASL", "ROL", "LSR", "ROR", "INC", "DEC", "TSB", "TRB":
		return api.UseChange
	}
	return api.UseNone
}
