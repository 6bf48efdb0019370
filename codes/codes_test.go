package codes_test

import (
	"bytes"
	"fmt"
	"math/rand"
	"slices"
	"strings"
	"testing"

	"lanthorn/api"
	"lanthorn/codes"
)

// The flags, short; flagSets are all sets of those on which something hangs, and some with others beside.
const (
	fM = api.FlagM
	fX = api.FlagX
)

func flagSets() []uint8 { return []uint8{0, fM, fX, fM | fX, 0xcf, 0xcf | fM, 0xcf | fX, 0xff} }

func wantText(t *testing.T, b []byte, pc uint16, p uint8, text string, size int) {
	t.Helper()
	if s, n, ok := codes.Text(b, pc, p); s != text || n != size || !ok {
		t.Errorf("Text(% x, %04x, %02x): %q, %d, %v, want %q, %d", b, pc, p, s, n, ok, text, size)
	}
}

func wantNoText(t *testing.T, b []byte, p uint8) {
	t.Helper()
	if s, n, ok := codes.Text(b, 0x8000, p); s != "" || n != 0 || ok {
		t.Errorf("Text(% x, 8000, %02x): %q, %d, %v, want nothing", b, p, s, n, ok)
	}
}

func wantBytes(t *testing.T, s string, pc uint16, p uint8, want ...byte) {
	t.Helper()
	if b, e := codes.Bytes(s, pc, p); !bytes.Equal(b, want) || e != api.OK {
		t.Errorf("Bytes(%q, %04x, %02x): % x, %v, want % x", s, pc, p, b, e, want)
	}
}

func wantError(t *testing.T, s string, pc uint16, p uint8, want api.Errno) {
	t.Helper()
	if b, e := codes.Bytes(s, pc, p); len(b) != 0 || e != want {
		t.Errorf("Bytes(%q, %04x, %02x): % x, %v, want %v", s, pc, p, b, e, want)
	}
}

// P6.1: the chapter's example, and codes of each kind of use and width.
func TestOf(t *testing.T) {
	for _, want := range []api.Code{
		{Code: 0xa9, Name: "LDA", Mode: api.ModeImm, Use: api.UseNone, Width: api.WidthM},
		{Code: 0x00, Name: "BRK", Mode: api.ModeSig},
		{Code: 0x0a, Name: "ASL", Mode: api.ModeA, Width: api.WidthM},
		{Code: 0x0e, Name: "ASL", Mode: api.ModeAbs, Use: api.UseChange, Width: api.WidthM},
		{Code: 0x8d, Name: "STA", Mode: api.ModeAbs, Use: api.UseWrite, Width: api.WidthM},
		{Code: 0x9e, Name: "STZ", Mode: api.ModeAbsX, Use: api.UseWrite, Width: api.WidthM},
		{Code: 0x96, Name: "STX", Mode: api.ModeDY, Use: api.UseWrite, Width: api.WidthX},
		{Code: 0xbe, Name: "LDX", Mode: api.ModeAbsY, Use: api.UseRead, Width: api.WidthX},
		{Code: 0xc2, Name: "REP", Mode: api.ModeImm, Width: api.WidthByte},
		{Code: 0x44, Name: "MVP", Mode: api.ModeMove},
		{Code: 0xd4, Name: "PEI", Mode: api.ModeInd},
		{Code: 0xfc, Name: "JSR", Mode: api.ModeAbsIndX},
		{Code: 0xff, Name: "SBC", Mode: api.ModeLongX, Use: api.UseRead, Width: api.WidthM},
	} {
		if c := codes.Of(want.Code); c != want {
			t.Errorf("Of(%02x): %+v, want %+v", want.Code, c, want)
		}
	}
}

// P6.1: each code is that of the chapter's table.
func TestTable(t *testing.T) {
	if len(table) != 256 {
		t.Fatalf("the table has %d rows", len(table))
	}
	for i, want := range table {
		if c := codes.Of(uint8(i)); c != want {
			t.Errorf("Of(%02x): %+v, want %+v", i, c, want)
		}
	}
}

// P6.1: all codes, rising; R6: gone through again, and left early.
func TestAll(t *testing.T) {
	all := codes.All()
	for range 2 {
		if l := slices.Collect(all); !slices.Equal(l, table) {
			t.Errorf("All: %d codes, %v", len(l), l)
		}
		n := 0
		for c := range all {
			if n++; c.Code == 9 {
				break
			}
		}
		if n != 10 {
			t.Errorf("left at the tenth code: %d", n)
		}
	}
}

// P6.1: the numbers of a name, rising; none of what is no name, whatever the texts within have side by side.
func TestNamed(t *testing.T) {
	for name, want := range map[string][]uint8{
		"JMP": {0x4c, 0x6c, 0x7c},
		"JML": {0x5c, 0xdc},
		"BRK": {0x00},
		"LDX": {0xa2, 0xa6, 0xae, 0xb6, 0xbe},
		"":    nil, "jmp": nil, "JM": nil, "JMPX": nil, "JMP ": nil, " JMP": nil, "   ": nil, "ORA COP": nil, "RAO": nil, "RA ": nil, "\x00": nil, "JM\xff": nil,
	} {
		if l := codes.Named(name); !slices.Equal(l, want) {
			t.Errorf("Named(%q): %x, want %x", name, l, want)
		}
	}
	for _, c := range table {
		var want []uint8
		for _, d := range table {
			if d.Name == c.Name {
				want = append(want, d.Code)
			}
		}
		if l := codes.Named(c.Name); !slices.Equal(l, want) {
			t.Errorf("Named(%q): %x, want %x", c.Name, l, want)
		}
	}
	l := codes.Named("JMP")
	l[0] = 9
	if l := codes.Named("JMP"); l[0] != 0x4c {
		t.Error("R3: what Named answers is not new memory")
	}
}

// P6.2: a width is wide by its flag alone, of all widths and flags.
func TestWide(t *testing.T) {
	for width := range 256 {
		for p := range 256 {
			want := width == api.WidthM && p&fM == 0 || width == api.WidthX && p&fX == 0
			if w := codes.Wide(uint8(width), uint8(p)); w != want {
				t.Errorf("Wide(%d, %02x): %v", width, p, w)
			}
		}
	}
}

// P6.2: the chapter's examples, and of all codes and flags what the chapter's words say.
func TestSize(t *testing.T) {
	for _, r := range []struct {
		code, p uint8
		want    int
	}{
		{0xa9, 0, 3}, {0xa9, fM, 2}, {0xa9, fX, 3}, {0x22, 0, 4}, {0x22, 0xff, 4},
		{0xa2, 0, 3}, {0xa2, fX, 2}, {0xa2, fM, 3}, {0xc2, 0, 2}, {0xe2, fM, 2},
		{0x00, 0, 2}, {0x42, 0, 2}, {0x0a, 0, 1}, {0xea, 0, 1}, {0x44, 0, 3}, {0x62, 0, 3}, {0x82, 0, 3}, {0xf4, 0, 3}, {0xd4, 0, 2},
	} {
		if n := codes.Size(r.code, r.p); n != r.want {
			t.Errorf("Size(%02x, %02x): %d, want %d", r.code, r.p, n, r.want)
		}
	}
	for _, c := range table {
		for p := range 256 {
			want := 1 + naiveOperand(c, uint8(p))
			if n := codes.Size(c.Code, uint8(p)); n != want {
				t.Errorf("Size(%02x, %02x): %d, want %d", c.Code, p, n, want)
			}
		}
	}
}

// P6.3: the chapter's examples, and one of each mode.
func TestText(t *testing.T) {
	wantText(t, []byte{0xa9, 0x34, 0x12}, 0x8000, 0, "LDA #$1234", 3)
	wantText(t, []byte{0xa9, 0x34, 0x12}, 0x8000, fM, "LDA #$34", 2)
	wantText(t, []byte{0xd0, 0xfe}, 0x8000, 0, "BNE $8000", 2)
	wantText(t, []byte{0x54, 0x7e, 0x7f}, 0x8000, 0, "MVN $7e,$7f", 3)
	wantText(t, []byte{0xb1, 0x10}, 0x8000, 0, "LDA ($10),y", 2)
	for _, r := range []struct {
		b    []byte
		text string
	}{
		{[]byte{0xea}, "NOP"},
		{[]byte{0x0a}, "ASL A"},
		{[]byte{0xe2, 0x30}, "SEP #$30"},
		{[]byte{0x82, 0xfd, 0xff}, "BRL $8000"},
		{[]byte{0x62, 0x00, 0x01}, "PER $8103"},
		{[]byte{0x05, 0x0c}, "ORA $0c"},
		{[]byte{0x35, 0xab}, "AND $ab,x"},
		{[]byte{0xb6, 0x01}, "LDX $01,y"},
		{[]byte{0x12, 0x02}, "ORA ($02)"},
		{[]byte{0x27, 0x02}, "AND [$02]"},
		{[]byte{0x41, 0x02}, "EOR ($02,x)"},
		{[]byte{0x77, 0x02}, "ADC [$02],y"},
		{[]byte{0x0c, 0xcd, 0xab}, "TSB $abcd"},
		{[]byte{0xbc, 0xcd, 0xab}, "LDY $abcd,x"},
		{[]byte{0xd9, 0xcd, 0xab}, "CMP $abcd,y"},
		{[]byte{0x22, 0x01, 0x02, 0x03}, "JSL $030201"},
		{[]byte{0xff, 0xff, 0xee, 0xdd}, "SBC $ddeeff,x"},
		{[]byte{0x6c, 0x01, 0x02}, "JMP ($0201)"},
		{[]byte{0xdc, 0x01, 0x02}, "JML [$0201]"},
		{[]byte{0xfc, 0x01, 0x02}, "JSR ($0201,x)"},
		{[]byte{0x83, 0x07}, "STA $07,s"},
		{[]byte{0xb3, 0x07}, "LDA ($07,s),y"},
		{[]byte{0x44, 0x01, 0x02}, "MVP $01,$02"},
		{[]byte{0x42, 0x99}, "WDM $99"},
		{[]byte{0xf4, 0x34, 0x12}, "PEA $1234"},
	} {
		wantText(t, r.b, 0x8000, 0, r.text, len(r.b))
		wantText(t, append(slices.Clone(r.b), 0xa9, 1, 2, 3), 0x8000, 0, r.text, len(r.b))
		for n := range r.b {
			wantNoText(t, r.b[:n], 0)
		}
	}
}

// P6.3: where a branch leads wraps round within sixteen bits.
func TestTextBranch(t *testing.T) {
	wantText(t, []byte{0x10, 0x7f}, 0xfff0, 0, "BPL $0071", 2)
	wantText(t, []byte{0x80, 0x80}, 0x0010, 0, "BRA $ff92", 2)
	wantText(t, []byte{0xf0, 0x00}, 0xfffe, 0, "BEQ $0000", 2)
	wantText(t, []byte{0x82, 0x00, 0x00}, 0xffff, 0, "BRL $0002", 3)
	wantText(t, []byte{0x62, 0xff, 0x7f}, 0x9000, 0, "PER $1002", 3)
	wantText(t, []byte{0x82, 0x80, 0x00}, 0x8000, 0, "BRL $8083", 3)
}

// P6.3: too few bytes, by the flags.
func TestNoText(t *testing.T) {
	wantNoText(t, nil, 0)
	wantNoText(t, []byte{}, 0)
	wantNoText(t, []byte{0xa9, 1}, 0)
	wantText(t, []byte{0xa9, 1}, 0, fM, "LDA #$01", 2)
	wantNoText(t, []byte{0xa0, 1}, fM)
	wantText(t, []byte{0xa0, 1}, 0, fX, "LDY #$01", 2)
	wantNoText(t, []byte{0xa9}, fM)
	wantNoText(t, []byte{0x22, 1, 2}, 0xff)
}

// P6.3: texts of all codes, places and flags are those of the chapter's words.
func TestTextNaive(t *testing.T) {
	r := rand.New(rand.NewSource(6))
	for code := range 256 {
		for range 200 {
			b := []byte{uint8(code), uint8(r.Intn(256)), uint8(r.Intn(256)), uint8(r.Intn(256))}
			pc := uint16(r.Intn(65536))
			for _, p := range flagSets() {
				wantText(t, b, pc, p, naiveText(b, pc, p), 1+naiveOperand(table[code], p))
			}
		}
	}
}

// P6.4: the chapter's examples.
func TestBytes(t *testing.T) {
	wantBytes(t, "BNE $8000", 0x8000, 0, 0xd0, 0xfe)
	wantError(t, "BNE $9000", 0x8000, 0, api.ErrFar)
	wantError(t, "LDA $12,y", 0x8000, 0, api.ErrForm)
	wantError(t, "LDQ $12", 0x8000, 0, api.ErrWord)
	wantError(t, "LDA #$34", 0x8000, 0, api.ErrForm)
	wantBytes(t, "LDA #$34", 0x8000, fM, 0xa9, 0x34)
	wantError(t, "LDA #$1234", 0x8000, fM, api.ErrForm)
}

// P6.4: how many digits there are tells modes of one kind apart.
func TestBytesDigits(t *testing.T) {
	wantBytes(t, "LDA $12", 0, 0, 0xa5, 0x12)
	wantBytes(t, "LDA $1234", 0, 0, 0xad, 0x34, 0x12)
	wantBytes(t, "LDA $123456", 0, 0, 0xaf, 0x56, 0x34, 0x12)
	wantBytes(t, "LDA $abcdef,x", 0, 0, 0xbf, 0xef, 0xcd, 0xab)
	wantBytes(t, "MVN $7e,$7f", 0, 0, 0x54, 0x7e, 0x7f)
	wantBytes(t, "JMP ($1234,x)", 0, 0, 0x7c, 0x34, 0x12)
	wantBytes(t, "BRK $00", 0, 0, 0, 0)
	wantBytes(t, "NOP", 0, 0, 0xea)
	wantBytes(t, "INC A", 0, 0, 0x1a)
	for _, s := range []string{
		"LDA", "LDA ", "LDA $", "LDA $1", "LDA $123", "LDA $12345", "LDA $1234567", "LDA $0000000012", "LDA $00000000000000001234",
		"LDA 12", "LDA $12 ", "LDA  $12", "LDA $12,X", "LDA $AB", "LDA $12,x,x", "LDA ($12", "LDA $12)", "LDA $1g", "LDA $12\x00", "LDA $12\n",
		"LDA #12", "LDA $#12", "LDA #$12g4", "LDA 12$", "LDA \xff12", "LDA $1\u0132", "LDA $-12", "LDA (12$)", "LDA $(12)",
		"NOP ", "NOP A", "NOP $12", "INC a", "INC", "MVN $7e", "MVN $7e7f", "MVN $7e,$7f,$00", "MVN $7e,$7", "MVN $7,$e7f", "MVN $7e $7f",
		"BNE", "BNE ", "BNE $80", "BNE $008000", "BNE 8000", "BNE #$8000", "BNE $8000,x", "BNE $900", "BNE $09000", "BNE $9000 ", "BNE  $9000", "BNE $90G0", "BNE $ABCD",
		"JMP [$1234]", "JML ($1234)", "PEA #$1234", "PEI $12", "REP #$1234", "BRK", "ASL", "ASL a",
	} {
		wantError(t, s, 0x8000, 0, api.ErrForm)
	}
}

// P6.4: the word ahead of the first blank is held against the names whole, and first of all.
func TestBytesWord(t *testing.T) {
	for _, s := range []string{"", " ", " LDA $12", "lda $12", "LDAX $12", "LD $12", "LDA$12", "LDA\t$12", "LDA\u00a0$12", "NOP\n", "BNEX $9000", "RAO", "ORA\x00", "\xff\xfe", "$12", "#"} {
		wantError(t, s, 0x8000, 0, api.ErrWord)
	}
}

// P6.4: how far a branch reaches, to both sides and round the ends; long ones reach everywhere.
func TestBytesFar(t *testing.T) {
	wantBytes(t, "BNE $8081", 0x8000, 0, 0xd0, 0x7f)
	wantError(t, "BNE $8082", 0x8000, 0, api.ErrFar)
	wantBytes(t, "BNE $7f82", 0x8000, 0, 0xd0, 0x80)
	wantError(t, "BNE $7f81", 0x8000, 0, api.ErrFar)
	wantBytes(t, "BRA $0010", 0xfff0, 0, 0x80, 0x1e)
	wantBytes(t, "BRA $fff0", 0x0010, 0, 0x80, 0xde)
	wantError(t, "BRA $8000", 0x0000, 0, api.ErrFar)
	wantBytes(t, "BRL $0000", 0x8000, 0, 0x82, 0xfd, 0x7f)
	wantBytes(t, "PER $8002", 0x0000, 0, 0x62, 0xff, 0x7f)
}

// P6.4: all branches, from one place to all others.
func TestBytesAllBranches(t *testing.T) {
	const pc = 0x1234
	for to := range 65536 {
		s := fmt.Sprintf("BVS $%04x", to)
		if way := to - pc - 2; way >= -128 && way < 128 {
			wantBytes(t, s, pc, 0, 0x70, uint8(way))
		} else {
			wantError(t, s, pc, 0, api.ErrFar)
		}
	}
}

// spoilt is a text of which a sign was changed, left out, put in beside, or nothing.
func spoilt(r *rand.Rand, s string) string {
	const some = "0123456789abcdefABCDEFxysXYS$#()[], \x00\xff"
	at := r.Intn(len(s) + 1)
	sign := string(some[r.Intn(len(some))])
	switch r.Intn(5) {
	case 0:
		return s[:at] + sign + s[at:]
	case 1:
		return s[:at] + s[min(at+1, len(s)):]
	case 2:
		return s[:at] + sign + s[min(at+1, len(s)):]
	case 3:
		return strings.ToLower(s[:at]) + strings.ToUpper(s[at:])
	}
	return s
}

// P6.4: texts, and texts that are spoilt, by all flags, answer what the chapter's words say.
func TestBytesNaive(t *testing.T) {
	r := rand.New(rand.NewSource(64))
	for range 60000 {
		b := []byte{uint8(r.Intn(256)), uint8(r.Intn(256)), uint8(r.Intn(256)), uint8(r.Intn(256))}
		pc := uint16(r.Intn(65536))
		s := naiveText(b, pc, flagSets()[r.Intn(8)])
		for range r.Intn(3) {
			s = spoilt(r, s)
		}
		pc += uint16(r.Intn(3) * r.Intn(200))
		p := flagSets()[r.Intn(8)]
		want, e := naiveBytes(s, pc, p)
		if e == api.OK {
			wantBytes(t, s, pc, p, want...)
		} else {
			wantError(t, s, pc, p, e)
		}
	}
}

// R3: the bytes handed in stay, those answered are new.
func TestNothingShared(t *testing.T) {
	b := []byte{0xad, 1, 2, 3}
	if _, n, ok := codes.Text(b[:3], 0, 0); n != 3 || !ok || !bytes.Equal(b, []byte{0xad, 1, 2, 3}) {
		t.Errorf("Text changed its bytes: % x", b)
	}
	x, _ := codes.Bytes("LDA $1234", 0, 0)
	x[1] = 9
	wantBytes(t, "LDA $1234", 0, 0, 0xad, 0x34, 0x12)
}

// P1: texts of great length end in an error.
func TestLongTexts(t *testing.T) {
	long := strings.Repeat("1", 1<<20)
	wantError(t, long, 0, 0, api.ErrWord)
	wantError(t, "LDA $"+long, 0, 0, api.ErrForm)
	wantError(t, "LDA "+strings.Repeat(" ", 1<<20), 0, 0, api.ErrForm)
	wantError(t, "BNE $"+long, 0, 0, api.ErrForm)
}
