package notes_test

import (
	"bytes"
	"math/rand"
	"slices"
	"strings"
	"testing"

	"lanthorn/api"
	"lanthorn/notes"
)

func wantText(t *testing.T, b []byte, at uint16, text string) {
	t.Helper()
	want := table[b[0]].Size
	if s, n, e := notes.Text(b, at); s != text || n != want || e != api.OK {
		t.Errorf("Text(% X, %04X): %q, %d, %v, want %q, %d", b, at, s, n, e, text, want)
	}
}

func wantNoText(t *testing.T, b []byte) {
	t.Helper()
	if s, n, e := notes.Text(b, 0x200); s != "" || n != 0 || e != api.ErrNone {
		t.Errorf("Text(% X, 0200): %q, %d, %v, want ErrNone", b, s, n, e)
	}
}

func wantList(t *testing.T, b []byte, at uint16, want ...string) {
	t.Helper()
	if l := notes.List(b, at); !slices.Equal(l, want) {
		t.Errorf("List(% X, %04X): %q, want %q", b, at, l, want)
	}
}

// P10.1: the chapter's examples, and codes of which something is seldom.
func TestOf(t *testing.T) {
	for _, want := range []api.Note{
		{Code: 0x04, Name: "OR", Form: "Ad", Size: 2, Cycles: 3},
		{Code: 0x2f, Name: "BRA", Form: "r", Size: 2, Cycles: 2},
		{Code: 0xff, Name: "STOP", Size: 1, Cycles: 3},
		{Code: 0x00, Name: "NOP", Size: 1, Cycles: 2},
		{Code: 0x0e, Name: "TSET1", Form: "a", Size: 3, Cycles: 6},
		{Code: 0x1f, Name: "JMP", Form: "*", Size: 3, Cycles: 6},
		{Code: 0x2a, Name: "OR1", Form: "C/", Size: 3, Cycles: 5},
		{Code: 0x4f, Name: "PCALL", Form: "u", Size: 2, Cycles: 6},
		{Code: 0x5a, Name: "CMPW", Form: "WD", Size: 2, Cycles: 4},
		{Code: 0x8f, Name: "MOV", Form: "d#", Size: 3, Cycles: 5},
		{Code: 0x9e, Name: "DIV", Size: 1, Cycles: 12},
		{Code: 0xaf, Name: "MOV", Form: "+A", Size: 1, Cycles: 4},
		{Code: 0xbd, Name: "MOV", Form: "SX", Size: 1, Cycles: 2},
		{Code: 0xcf, Name: "MUL", Size: 1, Cycles: 9},
		{Code: 0xf1, Name: "TCALL", Form: "t", Size: 1, Cycles: 8},
		{Code: 0xfe, Name: "DBNZ", Form: "Yr", Size: 2, Cycles: 4},
	} {
		if c := notes.Of(want.Code); c != want {
			t.Errorf("Of(%02X): %+v, want %+v", want.Code, c, want)
		}
	}
}

// P10.1: each code is that of the chapter's table.
func TestTable(t *testing.T) {
	if len(table) != 256 {
		t.Fatalf("the table has %d rows", len(table))
	}
	for i, want := range table {
		if c := notes.Of(uint8(i)); c != want {
			t.Errorf("Of(%02X): %+v, want %+v", i, c, want)
		}
	}
}

// P10.1: all codes, rising; R6: gone through again, and left early.
func TestAll(t *testing.T) {
	all := notes.All()
	for range 2 {
		if l := slices.Collect(all); !slices.Equal(l, table) {
			t.Errorf("All: %d codes, %v", len(l), l)
		}
		n := 0
		for c := range all {
			if n++; c.Code == 9 {
				break
			}
		}
		if n != 10 {
			t.Errorf("left at the tenth code: %d", n)
		}
	}
}

// P10.1: how many bytes an operand of each letter has, and of what is none.
func TestWidth(t *testing.T) {
	for letter := range 256 {
		want := 0
		if letter < 128 {
			want = naiveWidth(rune(letter))
		}
		if n := notes.Width(byte(letter)); n != want {
			t.Errorf("Width(%q): %d, want %d", rune(letter), n, want)
		}
	}
}

// P10.2: the chapter's examples, the least of several, and what there is not.
func TestFind(t *testing.T) {
	for _, want := range []struct {
		name, form string
		code       uint8
	}{
		{"MOV", "dd", 0xfa}, {"SET1", "b", 0x02}, {"CLR1", "b", 0x12}, {"BBS", "br", 0x03}, {"BBC", "br", 0x13}, {"TCALL", "t", 0x01},
		{"NOP", "", 0x00}, {"STOP", "", 0xff}, {"MOV", "XA", 0x5d}, {"MOV", "AX", 0x7d}, {"DBNZ", "dr", 0x6e}, {"DBNZ", "Yr", 0xfe},
		{"OR1", "Cn", 0x0a}, {"OR1", "C/", 0x2a}, {"JMP", "*", 0x1f}, {"JMP", "a", 0x5f}, {"MOV", "A+", 0xbf}, {"MOV", "+A", 0xaf},
	} {
		if code, ok := notes.Find(want.name, want.form); code != want.code || !ok {
			t.Errorf("Find(%q, %q): %02X, %v, want %02X", want.name, want.form, code, ok, want.code)
		}
	}
	for _, none := range [][2]string{
		{"MOV", "ddd"}, {"MOV", ""}, {"MOV", "d"}, {"MOV", "dd "}, {"MOV", " dd"}, {"MOV ", "dd"}, {" MOV", "dd"}, {"mov", "dd"}, {"MOV", "DD"}, {"MO", "dd"}, {"MOVW", "dd"},
		{"", ""}, {"", "dd"}, {"NOP", " "}, {"NOP ", ""}, {"NOP  ", "  "}, {"NO", ""}, {"NOP", "2"}, {"OR", "A"}, {"OR", "dA"}, {"OR1", "C"}, {"JMP", `\*`}, {"SET1", "b0"},
		{"MOV", "dd\x00"}, {"MOV\xff", "dd"}, {"PUSH", "S"}, {"TCALL", "5"}, {strings.Repeat("MOV", 1<<20), "dd"}, {"MOV", strings.Repeat("d", 1<<20)},
	} {
		if code, ok := notes.Find(none[0], none[1]); code != 0 || ok {
			t.Errorf("Find(%.20q, %.20q): %02X, %v", none[0], none[1], code, ok)
		}
	}
}

// P10.3: the chapter's examples.
func TestText(t *testing.T) {
	wantText(t, []byte{0x04, 0x12}, 0, "OR A,12")
	wantText(t, []byte{0xfa, 0x12, 0x34}, 0, "MOV 34,12")
	wantText(t, []byte{0x2f, 0xfe}, 0x200, "BRA 0200")
	wantText(t, []byte{0x13, 0x10, 0xfd}, 0x200, "BBC 10.0,0200")
	wantText(t, []byte{0x0a, 0x34, 0xf2}, 0, "OR1 C,1234.7")
	wantText(t, []byte{0xc5, 0x34, 0x12}, 0, "MOV !1234,A")
	wantText(t, []byte{0x8f, 0x05, 0x10}, 0, "MOV 10,#05")
	wantText(t, []byte{0x51}, 0, "TCALL 5")
	wantNoText(t, []byte{0xe4})
}

// P10.3: an operand of each letter; bytes behind the instruction change nothing; with fewer bytes there is none.
func TestTextLetters(t *testing.T) {
	for _, want := range []struct {
		text string
		b    []byte
	}{
		{"NOP", []byte{0x00}},
		{"PUSH PSW", []byte{0x0d}},
		{"MOV SP,X", []byte{0xbd}},
		{"MOV X,SP", []byte{0x9d}},
		{"MOV A,Y", []byte{0xdd}},
		{"XCN A", []byte{0x9f}},
		{"ADDW YA,12", []byte{0x7a, 0x12}},
		{"MOVW 12,YA", []byte{0xda, 0x12}},
		{"MOV Y,#0C", []byte{0x8d, 0x0c}},
		{"MOV A,AB+X", []byte{0xf4, 0xab}},
		{"MOV X,AB+Y", []byte{0xf9, 0xab}},
		{"MOV (X),A", []byte{0xc6}},
		{"OR (X),(Y)", []byte{0x19}},
		{"MOV (X)+,A", []byte{0xaf}},
		{"MOV A,(X)+", []byte{0xbf}},
		{"MOV !0ABC,X", []byte{0xc9, 0xbc, 0x0a}},
		{"MOV !ABCD+X,A", []byte{0xd5, 0xcd, 0xab}},
		{"CMP A,!ABCD+Y", []byte{0x76, 0xcd, 0xab}},
		{"MOV [0F+X],A", []byte{0xc7, 0x0f}},
		{"MOV [F0]+Y,A", []byte{0xd7, 0xf0}},
		{"JMP [!1234+X]", []byte{0x1f, 0x34, 0x12}},
		{"CALL !FFC0", []byte{0x3f, 0xc0, 0xff}},
		{"PCALL FF12", []byte{0x4f, 0x12}},
		{"TCALL 0", []byte{0x01}},
		{"TCALL 9", []byte{0x91}},
		{"TCALL 10", []byte{0xa1}},
		{"TCALL 15", []byte{0xf1}},
		{"SET1 10.0", []byte{0x02, 0x10}},
		{"SET1 10.7", []byte{0xe2, 0x10}},
		{"CLR1 FF.7", []byte{0xf2, 0xff}},
		{"CLR1 FF.3", []byte{0x72, 0xff}},
		{"OR1 C,/1234.7", []byte{0x2a, 0x34, 0xf2}},
		{"AND1 C,/0000.4", []byte{0x6a, 0x00, 0x80}},
		{"MOV1 1FFF.0,C", []byte{0xca, 0xff, 0x1f}},
		{"NOT1 1FFF.7", []byte{0xea, 0xff, 0xff}},
		{"OR 34,12", []byte{0x09, 0x12, 0x34}},
		{"CMP 34,#12", []byte{0x78, 0x12, 0x34}},
	} {
		wantText(t, want.b, 0x200, want.text)
		wantText(t, append(slices.Clone(want.b), 0xe4, 0x12, 0xff), 0xffff, want.text)
		for n := range want.b {
			wantNoText(t, want.b[:n])
		}
	}
}

// P10.3: where a branch leads: so far behind the instruction, to both sides, and round the ends.
func TestTextBranch(t *testing.T) {
	wantText(t, []byte{0x10, 0x00}, 0x0200, "BPL 0202")
	wantText(t, []byte{0x10, 0x7f}, 0x0200, "BPL 0281")
	wantText(t, []byte{0x10, 0x80}, 0x0200, "BPL 0182")
	wantText(t, []byte{0xf0, 0x00}, 0xfffe, "BEQ 0000")
	wantText(t, []byte{0xd0, 0x80}, 0x0000, "BNE FF82")
	wantText(t, []byte{0xb0, 0x7f}, 0xffff, "BCS 0080")
	wantText(t, []byte{0x2e, 0x34, 0x10}, 0x0200, "CBNE 34,0213")
	wantText(t, []byte{0xde, 0x34, 0x10}, 0x0200, "CBNE 34+X,0213")
	wantText(t, []byte{0x6e, 0x34, 0xfd}, 0x0200, "DBNZ 34,0200")
	wantText(t, []byte{0xfe, 0xfe}, 0x0200, "DBNZ Y,0200")
	wantText(t, []byte{0xe3, 0x80, 0x7f}, 0xfffd, "BBS 80.7,007F")
}

// P10.3: no bytes, and too few of each code.
func TestNoText(t *testing.T) {
	wantNoText(t, nil)
	wantNoText(t, []byte{})
	for _, c := range table {
		b := []byte{c.Code, 0x12, 0x34}
		for n := range c.Size {
			wantNoText(t, b[:n])
		}
		wantText(t, b[:c.Size], 0x1000, naiveText(b, 0x1000))
	}
}

// P10.3: texts of all codes at all kinds of places are those of the chapter's words.
func TestTextNaive(t *testing.T) {
	r := rand.New(rand.NewSource(10))
	for code := range 256 {
		for range 500 {
			b := []byte{uint8(code), uint8(r.Intn(256)), uint8(r.Intn(256)), uint8(r.Intn(256))}
			at := uint16(r.Intn(65536))
			wantText(t, b, at, naiveText(b, at))
		}
	}
}

// P10.4: the chapter's example; what is left over has a line a byte, though a later byte of it be a code that is whole; addresses go round.
func TestList(t *testing.T) {
	wantList(t, []byte{0x00, 0xe8}, 0xffff, "FFFF NOP", "0000 ? E8")
	wantList(t, nil, 0x200)
	wantList(t, []byte{}, 0x200)
	wantList(t, []byte{0xe5}, 0x0000, "0000 ? E5")
	wantList(t, []byte{0xe5, 0x00}, 0x0200, "0200 ? E5", "0201 ? 00")
	wantList(t, []byte{0x00, 0x13, 0x00}, 0xffff, "FFFF NOP", "0000 ? 13", "0001 ? 00")
	wantList(t, []byte{0xe5, 0x00}, 0xffff, "FFFF ? E5", "0000 ? 00")
	wantList(t, []byte{0x20, 0xcd, 0xef, 0xbd, 0x1d, 0xd0, 0xfd, 0x5f, 0x34, 0x12, 0x0c}, 0x0ffc,
		"0FFC CLRP", "0FFD MOV X,#EF", "0FFF MOV SP,X", "1000 DEC X", "1001 BNE 1000", "1003 JMP !1234", "1006 ? 0C")
	wantList(t, []byte{0x2f, 0xfe, 0x2f, 0x00}, 0xfffe, "FFFE BRA FFFE", "0000 BRA 0002")
}

// P10.4: lists of bytes of any kind are those of the chapter's words.
func TestListNaive(t *testing.T) {
	r := rand.New(rand.NewSource(104))
	for range 5000 {
		b := make([]byte, r.Intn(40))
		r.Read(b)
		at := uint16(r.Intn(65536))
		wantList(t, b, at, naiveList(b, at)...)
	}
}

// P1: lists of more bytes than there are addresses go on round the end.
func TestLongList(t *testing.T) {
	b := bytes.Repeat([]byte{0x00, 0xfa, 0x12, 0x34}, 1<<16)
	wantList(t, b, 0x1234, naiveList(b, 0x1234)...)
}

// R3: the bytes handed in stay, and the room behind them; what is answered is new memory.
func TestNothingShared(t *testing.T) {
	b := []byte{0xfa, 1, 2, 0xe8, 0xff}
	notes.Text(b[:3], 0)
	wantList(t, b[:4], 0, "0000 MOV 02,01", "0003 ? E8")
	wantNoText(t, b[3:4:5])
	if !bytes.Equal(b, []byte{0xfa, 1, 2, 0xe8, 0xff}) {
		t.Errorf("the bytes handed in have changed: % X", b)
	}
	l := notes.List(b[:3], 0)
	l[0] = "other"
	wantList(t, b[:3], 0, "0000 MOV 02,01")
}
