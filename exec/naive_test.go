package exec_test

import (
	"math/rand"
	"slices"
	"strconv"
	"strings"
	"testing"

	"lanthorn/alu"
	"lanthorn/api"
	"lanthorn/codes"
	"lanthorn/exec"
	"lanthorn/reach"
)

// rows is the chapter once more: what each name does, word by word, behind the fetch of its code. A name has a row of its own for a mode, if the chapter says something else of it; such a row is found by name and mode. n is the number that one word hands to the next.
//
//	M X w b   the width is that of the flag M, of X; it is wide; narrow
//	i         an idle
//	1 2 3     so many bytes are fetched: n
//	v         the operand, by the width: n
//	o r       the operand's place; what stands there, by the width: n
//	> <       n is written there: its lower byte first; its upper one first
//	=A .. A=  n is that register's; that register is n, by the width
//	A,3 n,8   n is what that operation makes of A (X, Y) and n; of n alone
//	nz        N, Z of n, by the width
//	C0 C1 ..  that flag is 0, is 1
//	?C0 ?C1   if that flag is not 0, not 1, nothing comes behind
//	?E0       likewise of E
//	push pull n, by the width
//	+X +PC    n and that register together; +1 -1 likewise
//	02 03 K2  reads of so many bytes at 0:n, at K:n: n
//	hold      n is kept; back: it is n again; under8, under16: it stands so many bits below n
//
// The words that only one or two rows have stand in rareWord and moveWord.
var rows = map[string]string{
	"ORA": "M v A,0 A=", "AND": "M v A,1 A=", "EOR": "M v A,2 A=", "ADC": "M v A,3 A=", "SBC": "M v A,4 A=", "CMP": "M v A,5 A=", "BIT": "M v A,6 A=", "BIT 2": "M v A,16 A=",
	"LDA": "M v A,7 A=", "LDX": "X v X,7 X=", "LDY": "X v Y,7 Y=", "CPX": "X v X,5 X=", "CPY": "X v Y,5 Y=",
	"STA": "M o =A >", "STX": "X o =X >", "STY": "X o =Y >", "STZ": "M o =0 >",
	"ASL": "M o r i n,8 <", "ROL": "M o r i n,9 <", "LSR": "M o r i n,10 <", "ROR": "M o r i n,11 <", "INC": "M o r i n,12 <", "DEC": "M o r i n,13 <", "TSB": "M o r i A,14 <", "TRB": "M o r i A,15 <",
	"ASL 1": "M i =A n,8 A=", "ROL 1": "M i =A n,9 A=", "LSR 1": "M i =A n,10 A=", "ROR 1": "M i =A n,11 A=", "INC 1": "M i =A n,12 A=", "DEC 1": "M i =A n,13 A=",
	"INX": "X i =X n,12 X=", "INY": "X i =Y n,12 Y=", "DEX": "X i =X n,13 X=", "DEY": "X i =Y n,13 Y=",
	"CLC": "i C0", "SEC": "i C1", "CLI": "i I0", "SEI": "i I1", "CLD": "i D0", "SED": "i D1", "CLV": "i V0", "NOP": "i",
	"TAX": "X i =A X= nz", "TAY": "X i =A Y= nz", "TSX": "X i =S X= nz", "TXY": "X i =X Y= nz", "TYX": "X i =Y X= nz", "TXA": "M i =X A= nz", "TYA": "M i =Y A= nz",
	"TXS": "w i =X S=", "TCS": "w i =A S=", "TSC": "w i =S A= nz", "TCD": "w i =A D= nz", "TDC": "w i =D A= nz",
	"XBA": "i i turn b =A nz", "XCE": "i change", "REP": "1 i all0", "SEP": "1 i all1",
	"PHA": "M i =A push", "PHX": "X i =X push", "PHY": "X i =Y push", "PHD": "w i =D push", "PHB": "b i =B push", "PHK": "b i =K push", "PHP": "b i =P push",
	"PLA": "M i i pull A= nz", "PLX": "X i i pull X= nz", "PLY": "X i i pull Y= nz", "PLD": "w i i pull D= nz", "PLB": "b i i pull B= nz", "PLP": "b i i pull P=",
	"PEA": "w 2 push", "PEI": "w 1 page direct push", "PER": "w 2 i +PC push",
	"BPL": "1 ?N0 branch", "BMI": "1 ?N1 branch", "BVC": "1 ?V0 branch", "BVS": "1 ?V1 branch", "BCC": "1 ?C0 branch", "BCS": "1 ?C1 branch", "BNE": "1 ?Z0 branch", "BEQ": "1 ?Z1 branch", "BRA": "1 branch", "BRL": "2 i +PC PC=",
	"JMP": "2 PC=", "JMP 18": "2 02 PC=", "JMP 20": "2 i +X K2 PC=", "JML": "3 PC= bank", "JML 19": "2 03 PC= bank",
	"JSR": "w 2 hold i =PC -1 push back PC=", "JSR 20": "w 1 hold =PC push 1 under8 i +X K2 PC=", "JSL": "w 2 hold b =K push i 1 under16 hold w =PC -1 push back PC= bank",
	"RTS": "w i i pull i +1 PC=", "RTL": "w i i pull +1 PC= b pull K=", "RTI": "b i i pull P= w pull PC= ?E0 b pull K=",
	"BRK": "1 enter =P push begin ffe6 fffe 02 PC=", "COP": "1 enter =P push begin ffe4 fff4 02 PC=", "WDM": "1",
	"MVN": "b 1 hold 1 =X:n i2= step1 again", "MVP": "b 1 hold 1 =X:n i2= step-1 again",
	"WAI": "i i after1", "STP": "i i after2",
	"0": "i i i i i anew fffc 02 PC=", "1": "i i enter =P unlessX push begin ffea fffa 02 PC=", "2": "i i enter =P unlessX push begin ffee fffe 02 PC=",
}

// naive goes through a row with as many bytes as it needs; it knows nothing of stopping.
type naive struct {
	r     api.Regs
	code  api.Code
	seen  []uint8
	used  int
	list  []api.Access
	n     int
	held  int
	place api.Place
	wide  bool
	after uint8
	ended bool
}

func (m *naive) read(addr int) int {
	m.list = append(m.list, api.Access{Kind: api.Read, Addr: uint32(addr)})
	m.used++
	if m.used > len(m.seen) {
		return 0
	}
	return int(m.seen[m.used-1])
}

func (m *naive) write(addr, v int) {
	m.list = append(m.list, api.Access{Kind: api.Write, Addr: uint32(addr), Value: uint8(v)})
}

// bytes is how many bytes a number of the width has.
func (m *naive) bytes() int {
	if m.wide {
		return 2
	}
	return 1
}

func (m *naive) fetch(count int) {
	m.n = 0
	for i := range count {
		m.n += m.read(int(m.r.K)*65536+int(m.r.PC)) << (8 * i)
		m.r.PC++
	}
}

func (m *naive) readAt(bank, count int) {
	at := m.n
	m.n = 0
	for i := range count {
		m.n += m.read(bank*65536+(at+i)%65536) << (8 * i)
	}
}

// stack is S moved by a step.
func (m *naive) stack(by int) {
	s := (int(m.r.S) + by + 65536) % 65536
	if m.r.E {
		s = 256 + s%256
	}
	m.r.S = uint16(s)
}

func (m *naive) push() {
	for i := m.bytes() - 1; i >= 0; i-- {
		m.write(int(m.r.S), m.n>>(8*i))
		m.stack(-1)
	}
}

func (m *naive) pull() {
	m.n = 0
	for i := range m.bytes() {
		m.stack(1)
		m.n += m.read(int(m.r.S)) << (8 * i)
	}
}

// walk is the operand's course, and its place.
func (m *naive) walk() {
	bytes := append(slices.Clone(m.seen[min(m.used, len(m.seen)):]), make([]uint8, 8)...)
	list, p, pc, _ := reach.Course(m.code, m.r, bytes)
	for _, a := range list {
		if a.Kind == api.Read {
			m.used++
		}
	}
	m.list = append(m.list, list...)
	m.place, m.r.PC = p, pc
}

// places are the operand's, by the width.
func (m *naive) places() []int {
	return []int{int(m.place.Addr), int(reach.Next(m.place).Addr)}[:m.bytes()]
}

func (m *naive) readOperand() {
	m.n = 0
	for i, at := range m.places() {
		m.n += m.read(at) << (8 * i)
	}
}

func (m *naive) value() {
	if m.code.Mode == api.ModeImm {
		m.fetch(m.bytes())
		return
	}
	m.walk()
	m.readOperand()
}

func (m *naive) register(name string) int {
	switch name {
	case "A":
		return int(m.r.A)
	case "X":
		return int(m.r.X)
	case "Y":
		return int(m.r.Y)
	case "S":
		return int(m.r.S)
	case "D":
		return int(m.r.D)
	case "PC":
		return int(m.r.PC)
	case "B":
		return int(m.r.B)
	case "K":
		return int(m.r.K)
	case "P":
		return int(m.r.P)
	}
	n, _ := strconv.Atoi(name)
	return n
}

func (m *naive) become(name string) {
	switch name {
	case "A":
		low := m.n % 256
		if m.wide {
			low = m.n
		}
		m.r.A = uint16(int(m.r.A) - int(m.r.A)%(1<<(8*m.bytes())) + low)
	case "X":
		m.r.X = uint16(m.n % (1 << (8 * m.bytes())))
	case "Y":
		m.r.Y = uint16(m.n % (1 << (8 * m.bytes())))
	case "S":
		m.r.S = uint16(m.n)
	case "D":
		m.r.D = uint16(m.n)
	case "PC":
		m.r.PC = uint16(m.n)
	case "B":
		m.r.B = uint8(m.n)
	case "K":
		m.r.K = uint8(m.n)
	case "P":
		m.r.P = uint8(m.n)
	}
}

const letters = "CZIDXMVN"

// flag makes that flag 0 or 1.
func (m *naive) flag(letter, bit byte) {
	one := uint8(1) << strings.IndexByte(letters, letter)
	m.r.P = m.r.P | one
	if bit == '0' {
		m.r.P -= one
	}
}

func (m *naive) is(letter, bit byte) bool {
	if letter == 'E' {
		return m.r.E == (bit == '1')
	}
	return m.r.P>>strings.IndexByte(letters, letter)&1 == bit-'0'
}

func (m *naive) operate(of string, op int) {
	a, b := m.n, 0
	if of != "n" {
		a, b = m.register(of), m.n
	}
	x, p, ok := alu.Do(uint8(op), uint16(a), uint16(b), m.r.P, m.wide)
	if !ok {
		panic("no such operation")
	}
	m.n, m.r.P = int(x), p
}

// word does one word of a row.
func (m *naive) word(s string) {
	switch s {
	case "M", "X":
		m.wide = m.is(s[0], '0')
	case "w", "b":
		m.wide = s == "w"
	case "i":
		m.list = append(m.list, api.Access{})
	case "1", "2", "3":
		m.fetch(int(s[0] - '0'))
	case "v":
		m.value()
	case "o":
		m.walk()
	case "r":
		m.readOperand()
	case ">":
		for i, at := range m.places() {
			m.write(at, m.n>>(8*i))
		}
	case "<":
		l := m.places()
		for i := len(l) - 1; i >= 0; i-- {
			m.write(l[i], m.n>>(8*i))
		}
	case "nz":
		_, m.r.P, _ = alu.Do(api.AluLoad, 0, uint16(m.n), m.r.P, m.wide)
	case "push":
		m.push()
	case "pull":
		m.pull()
	case "02", "03":
		m.readAt(0, int(s[1]-'0'))
	case "K2":
		m.readAt(int(m.r.K), 2)
	case "hold":
		m.held = m.n
	case "back":
		m.n = m.held
	case "under8":
		m.n = m.n<<8 + m.held
	case "under16":
		m.n = m.n<<16 + m.held
	default:
		m.rareWord(s)
	}
}

// rareWord does a word that only one or two rows have.
func (m *naive) rareWord(s string) {
	switch s {
	case "turn":
		m.r.A = m.r.A%256*256 + m.r.A/256
	case "change":
		e := m.r.E
		m.r.E = m.r.P%2 == 1
		m.r.P = m.r.P / 2 * 2
		if e {
			m.r.P++
		}
	case "all0", "all1":
		for i := range 8 {
			if m.n>>i%2 == 1 {
				m.flag(letters[i], s[3])
			}
		}
	case "page":
		if m.r.D%256 != 0 {
			m.word("i")
		}
	case "direct":
		low := m.read(int(reach.Direct(m.r, uint32(m.n))))
		m.n = m.read(int(reach.Direct(m.r, uint32(m.n+1))))*256 + low
	case "branch":
		m.word("i")
		n := (int(m.r.PC) + int(alu.Extend(uint8(m.n)))) % 65536
		if m.r.E && n/256 != int(m.r.PC)/256 {
			m.word("i")
		}
		m.r.PC = uint16(n)
	case "bank":
		m.r.K = uint8(m.n / 65536)
	case "enter":
		m.run("b =K")
		if !m.r.E {
			m.push()
		}
		m.run("w =PC push b")
	case "begin":
		m.run("I1 D0")
		m.r.K = 0
	case "unlessX":
		if m.r.E {
			m.n &= 0xef
		}
	case "ffe6", "ffe4", "ffea", "ffee":
		at, _ := strconv.ParseInt(s, 16, 32)
		m.n = int(at)
	case "fffe", "fff4", "fffa", "fffc":
		if at, _ := strconv.ParseInt(s, 16, 32); m.r.E {
			m.n = int(at)
		}
	case "anew":
		m.r.S -= 3
		m.r.E, m.r.D, m.r.B, m.r.K = true, 0, 0, 0
		m.run("I1 D0")
		m.r = reach.Settle(m.r)
	case "after1", "after2":
		m.after = s[5] - '0'
	default:
		m.moveWord(s)
	}
}

// moveWord does a word of a move, or one that names a register or a flag.
func (m *naive) moveWord(s string) {
	switch {
	case s == "=X:n":
		m.n = m.read(m.n*65536 + int(m.r.X))
		m.write(m.held*65536+int(m.r.Y), m.n)
	case s == "i2=":
		m.run("i i back B=")
	case s == "step1":
		m.r.X, m.r.Y = m.r.X+1, m.r.Y+1
	case s == "step-1":
		m.r.X, m.r.Y = m.r.X-1, m.r.Y-1
	case s == "again":
		if m.r.A != 0 {
			m.r.PC -= 3
		}
		m.r.A--
	case s[0] == '?':
		m.ended = !m.is(s[1], s[2])
	case s[0] == '+':
		m.n = (m.n + m.register(s[1:])) % 65536
	case s == "-1":
		m.n = (m.n + 65535) % 65536
	case s[0] == '=':
		m.n = m.register(s[1:])
	case strings.HasSuffix(s, "="):
		m.become(strings.TrimSuffix(s, "="))
	case strings.Contains(s, ","):
		of, op, _ := strings.Cut(s, ",")
		n, _ := strconv.Atoi(op)
		m.operate(of, n)
	case len(s) == 2 && strings.IndexByte(letters, s[0]) >= 0 && (s[1] == '0' || s[1] == '1'):
		m.flag(s[0], s[1])
	default:
		panic("no such word: " + s)
	}
}

// run goes through a row.
func (m *naive) run(row string) {
	for _, s := range strings.Fields(row) {
		if m.ended {
			return
		}
		m.word(s)
	}
}

// turn is what was gone through, cut behind the first read of which the byte was not seen.
func (m *naive) turn() api.Turn {
	reads := 0
	for i, a := range m.list {
		if a.Kind == api.Read {
			reads++
		}
		if reads > len(m.seen) {
			return api.Turn{List: m.list[:i+1]}
		}
	}
	return api.Turn{List: m.list, Done: true, Regs: reach.Settle(m.r), After: m.after}
}

// rowOf is the row of a code.
func rowOf(c api.Code) string {
	if row, ok := rows[c.Name+" "+strconv.Itoa(int(c.Mode))]; ok {
		return row
	}
	return rows[c.Name]
}

func naiveCourse(r api.Regs, seen []uint8) api.Turn {
	m := naive{r: reach.Settle(r), seen: seen}
	m.fetch(1)
	m.code = codes.Of(uint8(m.n))
	m.run(rowOf(m.code))
	return m.turn()
}

func naiveEnter(why uint8, r api.Regs, seen []uint8) api.Turn {
	m := naive{r: reach.Settle(r), seen: seen}
	m.run(rows[strconv.Itoa(int(why))])
	return m.turn()
}

// some is one of the numbers that lie at edges, or any.
func some(r *rand.Rand) uint16 {
	edges := []uint16{0, 1, 2, 0x7f, 0x80, 0xfe, 0xff, 0x100, 0x101, 0x1ff, 0x200, 0x7fff, 0x8000, 0xff00, 0xff01, 0xfffd, 0xfffe, 0xffff}
	if r.Intn(3) == 0 {
		return uint16(r.Intn(65536))
	}
	return edges[r.Intn(len(edges))]
}

// someRegs are registers of any kind, those that can't be among them.
func someRegs(r *rand.Rand) api.Regs {
	return api.Regs{A: some(r), X: some(r), Y: some(r), S: some(r), D: some(r), PC: some(r), B: uint8(some(r)), K: uint8(some(r)), P: uint8(r.Intn(256)), E: r.Intn(3) == 0}
}

// someBytes are an instruction's, its code first, or too few of them.
func someBytes(r *rand.Rand, code int) []uint8 {
	l := []uint8{uint8(code)}
	for range 8 {
		l = append(l, uint8(some(r)))
	}
	if r.Intn(3) == 0 {
		return l[:r.Intn(len(l)+1)]
	}
	return l
}

func same(a, b api.Turn) bool {
	return slices.Equal(a.List, b.List) && a.Done == b.Done && a.Regs == b.Regs && a.After == b.After
}

// P8.1: of all codes, whatever the registers and bytes, the turn is that of the chapter's words.
func TestCourseNaive(t *testing.T) {
	r := rand.New(rand.NewSource(8))
	for code := range 256 {
		for range 3000 {
			regs, seen := someRegs(r), someBytes(r, code)
			if got, want := exec.Course(regs, seen), naiveCourse(regs, seen); !same(got, want) {
				t.Fatalf("Course(%+v, % x), %s:\n%+v, want\n%+v", regs, seen, codes.Of(uint8(code)).Name, got, want)
			}
		}
	}
}

// P8.2: likewise of interrupts, and of those that are none.
func TestEnterNaive(t *testing.T) {
	r := rand.New(rand.NewSource(82))
	for range 30000 {
		why, regs, seen := uint8(r.Intn(5)), someRegs(r), someBytes(r, int(uint8(some(r))))
		if got, want := exec.Enter(why, regs, seen), naiveEnter(why, regs, seen); !same(got, want) {
			t.Fatalf("Enter(%d, %+v, % x):\n%+v, want\n%+v", why, regs, seen, got, want)
		}
	}
}

// Each name of the codes has a row.
func TestRows(t *testing.T) {
	for c := range codes.All() {
		if rowOf(c) == "" {
			t.Errorf("%s has no row", c.Name)
		}
	}
}
