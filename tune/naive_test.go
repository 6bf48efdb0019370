package tune_test

import (
	"math/rand"
	"slices"
	"strings"

	"lanthorn/api"
	"lanthorn/notes"
)

// naive is the chapter once more, in numbers that know no end: an instruction runs to its end whatever was seen, noughts being read where bytes lack; then its idles are laid in, and it is cut where the first byte lacks.
type naive struct {
	a, x, y, s, pc         int
	c, z, i, h, b, p, v, n int
	halt                   bool

	memory func(addr, nth int) int // what the nth read reads
	reads  int
	list   []api.Access
	code   api.Note
	nums   map[byte]int // the operands' bytes, by their letters
	places [2]int       // the operands' bytes, by their order in the form
	branch bool
}

func naiveOf(r api.Pegs, memory func(addr, nth int) int) *naive {
	m := &naive{a: int(r.A), x: int(r.X), y: int(r.Y), s: int(r.S), pc: int(r.Pc), halt: r.Halt, memory: memory}
	m.flags(int(r.Psw))
	return m
}

func (m *naive) flags(psw int) {
	for k, f := range m.bits() {
		*f = psw >> k % 2
	}
}

func (m *naive) bits() []*int { return []*int{&m.c, &m.z, &m.i, &m.h, &m.b, &m.p, &m.v, &m.n} }

func (m *naive) psw() int {
	n := 0
	for k, f := range m.bits() {
		n += *f << k
	}
	return n
}

func (m *naive) pegs() api.Pegs {
	return api.Pegs{A: uint8(m.a), X: uint8(m.x), Y: uint8(m.y), S: uint8(m.s), Psw: uint8(m.psw()), Pc: uint16(m.pc), Halt: m.halt}
}

func (m *naive) read(addr int) int {
	m.list = append(m.list, api.Access{Kind: api.Read, Addr: uint32(addr)})
	m.reads++
	return m.memory(addr, m.reads-1)
}

func (m *naive) write(addr, v int) {
	m.list = append(m.list, api.Access{Kind: api.Write, Addr: uint32(addr), Value: uint8(v)})
}

func (m *naive) word(addr int) int    { return m.read(addr%65536) + 256*m.read((addr+1)%65536) }
func (m *naive) direct(b int) int     { return 256*m.p + b%256 }
func (m *naive) directWord(b int) int { return m.read(m.direct(b)) + 256*m.read(m.direct(b+1)) }

// run is the whole instruction.
func (m *naive) run() []api.Access {
	if m.halt {
		return []api.Access{{}}
	}
	m.own()
	size := len(m.list)
	m.do()
	list := slices.Insert(m.list, size, make([]api.Access, m.code.Cycles-len(m.list))...)
	if m.branch {
		list = append(list, api.Access{}, api.Access{})
	}
	return list
}

// own reads the instruction's own bytes.
func (m *naive) own() {
	m.code = notes.Of(uint8(m.read(m.pc)))
	m.nums = map[byte]int{}
	order := []int{1, 0}
	if strings.HasSuffix(m.code.Form, "r") {
		order = []int{0, 1}
	}
	for _, k := range order {
		if k >= len(m.code.Form) {
			continue
		}
		letter := m.code.Form[k]
		for j := range notes.Width(letter) {
			m.pc = (m.pc + 1) % 65536
			m.places[k] += m.read(m.pc) << (8 * j)
		}
		m.nums[letter] = m.places[k]
	}
	m.pc = (m.pc + 1) % 65536
}

// reg is the register of a letter, if it is one.
func (m *naive) reg(letter byte) *int {
	return map[byte]*int{'A': &m.a, 'X': &m.x, 'Y': &m.y, 'S': &m.s}[letter]
}

// addr is the address of an operand, by its place in the form.
func (m *naive) addr(k int) int {
	n := m.places[k]
	switch m.code.Form[k] {
	case 'd', 'b', 'D':
		return m.direct(n)
	case 'x':
		return m.direct(n + m.x)
	case 'y':
		return m.direct(n + m.y)
	case 'i', '+':
		return m.direct(m.x)
	case 'j':
		return m.direct(m.y)
	case 'a':
		return n
	case 'p':
		return (n + m.x) % 65536
	case 'q':
		return (n + m.y) % 65536
	case 'l':
		return m.directWord(n + m.x)
	case 'm':
		return (m.directWord(n) + m.y) % 65536
	case 'n', '/':
		return n % 8192
	}
	panic("the test asks for the address of " + m.code.Form)
}

func (m *naive) get(k int) int {
	letter := m.code.Form[k]
	if r := m.reg(letter); r != nil {
		return *r
	}
	if letter == '#' {
		return m.places[k]
	}
	if letter == 'P' {
		return m.psw()
	}
	v := m.read(m.addr(k))
	if letter == '+' {
		m.x = (m.x + 1) % 256
	}
	return v
}

func (m *naive) set(k, v int) {
	letter := m.code.Form[k]
	if r := m.reg(letter); r != nil {
		*r = v
		return
	}
	if letter == 'P' {
		m.flags(v)
		return
	}
	m.write(m.addr(k), v)
	if letter == '+' {
		m.x = (m.x + 1) % 256
	}
}

func truth(is bool) int {
	if is {
		return 1
	}
	return 0
}

// nz sets N and Z of a number with so many bits, and is it.
func (m *naive) nz(v, bits int) int {
	m.n, m.z = v>>(bits-1), truth(v == 0)
	return v
}

// signed is a number of so many bits with its sign.
func signed(v, bits int) int {
	if v >= 1<<(bits-1) {
		return v - 1<<bits
	}
	return v
}

// plus is a and b and carry together, of so many bits, H being carried out of so many.
func (m *naive) plus(a, b, carry, bits, half int) int {
	m.h = truth(a%(1<<half)+b%(1<<half)+carry >= 1<<half)
	m.c = truth(a+b+carry >= 1<<bits)
	both := signed(a, bits) + signed(b, bits) + carry
	m.v = truth(both < -1<<(bits-1) || both >= 1<<(bits-1))
	return m.nz((a+b+carry)%(1<<bits), bits)
}

// minus is a less b and borrow.
func (m *naive) minus(a, b, borrow, bits, half int) int {
	m.h = truth(a%(1<<half)-b%(1<<half)-borrow >= 0)
	m.c = truth(a-b-borrow >= 0)
	both := signed(a, bits) - signed(b, bits) - borrow
	m.v = truth(both < -1<<(bits-1) || both >= 1<<(bits-1))
	return m.nz((a-b-borrow+1<<bits)%(1<<bits), bits)
}

// less is a less b, which is not kept.
func (m *naive) less(a, b, bits int) {
	m.c = truth(a >= b)
	m.nz((a-b+1<<bits)%(1<<bits), bits)
}

func (m *naive) ya() int { return 256*m.y + m.a }

func (m *naive) setYA(v int) { m.y, m.a = v/256, v%256 }

func (m *naive) push(v int) {
	m.write(256+m.s, v)
	m.s = (m.s + 255) % 256
}

func (m *naive) pop() int {
	m.s = (m.s + 1) % 256
	return m.read(256 + m.s)
}

func (m *naive) pushPc() {
	m.push(m.pc / 256)
	m.push(m.pc % 256)
}

// goIf branches.
func (m *naive) goIf(is bool) {
	if is {
		m.branch = true
		m.pc = (m.pc + signed(m.nums['r'], 8) + 65536) % 65536
	}
}

// do is what the name says.
func (m *naive) do() {
	switch m.code.Name {
	case "MOV":
		v := m.get(1)
		m.set(0, v)
		if strings.Contains("AXY", m.code.Form[:1]) {
			m.nz(v, 8)
		}
	case "OR", "AND", "EOR", "ADC", "SBC", "CMP":
		o := m.get(1)
		m.two(m.get(0), o)
	case "ASL", "LSR", "ROL", "ROR", "INC", "DEC":
		m.set(0, m.nz(m.one(m.get(0)), 8))
	case "PUSH":
		m.push(m.get(0))
	case "POP":
		m.set(0, m.pop())
	case "SET1", "CLR1", "NOT1", "OR1", "AND1", "EOR1", "MOV1", "BBS", "BBC":
		m.bit()
	case "TSET1", "TCLR1":
		v := m.get(0)
		m.nz((m.a-v+256)%256, 8)
		m.set(0, map[string]int{"TSET1": v | m.a, "TCLR1": v - v&m.a}[m.code.Name])
	case "MOVW", "ADDW", "SUBW", "CMPW", "INCW", "DECW":
		m.wide(m.nums['D'])
	case "MUL", "DIV", "DAA", "DAS", "XCN":
		m.alone()
	case "CBNE":
		m.goIf(m.get(0) != m.a)
	case "DBNZ":
		v := (m.get(0) + 255) % 256
		m.set(0, v)
		m.goIf(v != 0)
	case "JMP", "CALL", "PCALL", "TCALL", "BRK", "RET", "RETI":
		m.far()
	case "SLEEP", "STOP":
		m.halt = true
	default:
		m.flagged()
	}
}

func (m *naive) two(d, o int) {
	switch m.code.Name {
	case "OR":
		m.set(0, m.nz(d|o, 8))
	case "AND":
		m.set(0, m.nz(d&o, 8))
	case "EOR":
		m.set(0, m.nz(d^o, 8))
	case "ADC":
		m.set(0, m.plus(d, o, m.c, 8, 4))
	case "SBC":
		m.set(0, m.minus(d, o, 1-m.c, 8, 4))
	case "CMP":
		m.less(d, o, 8)
	}
}

func (m *naive) one(v int) int {
	in := 0
	switch m.code.Name {
	case "ROL", "ROR":
		in = m.c
		fallthrough
	case "ASL", "LSR":
		if m.code.Name[2] == 'L' || m.code.Name == "ROL" {
			m.c = v / 128
			return v*2%256 + in
		}
		m.c = v % 2
		return v/2 + 128*in
	case "INC":
		return (v + 1) % 256
	}
	return (v + 255) % 256
}

// bit is what is done with a bit: k is the operand that has it.
func (m *naive) bit() {
	k := strings.IndexAny(m.code.Form, "bn/")
	nth := m.places[k] / 8192
	if m.code.Form[k] == 'b' {
		nth = int(m.code.Code) / 32
	}
	v := m.get(k)
	bit := v >> nth % 2
	without := v - bit<<nth
	if m.code.Form[k] == '/' {
		bit = 1 - bit
	}
	switch m.code.Name {
	case "SET1":
		m.set(k, without+1<<nth)
	case "CLR1":
		m.set(k, without)
	case "NOT1":
		m.set(k, without+(1-bit)<<nth)
	case "OR1":
		m.c = max(m.c, bit)
	case "AND1":
		m.c = min(m.c, bit)
	case "EOR1":
		m.c = (m.c + bit) % 2
	case "MOV1":
		if k == 1 {
			m.c = bit
		} else {
			m.set(k, without+m.c<<nth)
		}
	case "BBS":
		m.goIf(bit == 1)
	case "BBC":
		m.goIf(bit == 0)
	}
}

// wide is what is done with a word of the direct page.
func (m *naive) wide(b int) {
	if m.code.Form == "DW" {
		m.write(m.direct(b), m.a)
		m.write(m.direct(b+1), m.y)
		return
	}
	w := m.directWord(b)
	switch m.code.Name {
	case "MOVW":
		m.setYA(m.nz(w, 16))
	case "ADDW":
		m.setYA(m.plus(m.ya(), w, 0, 16, 12))
	case "SUBW":
		m.setYA(m.minus(m.ya(), w, 0, 16, 12))
	case "CMPW":
		m.less(m.ya(), w, 16)
	case "INCW", "DECW":
		w = m.nz((w+map[string]int{"INCW": 1, "DECW": 65535}[m.code.Name])%65536, 16)
		m.write(m.direct(b), w%256)
		m.write(m.direct(b+1), w/256)
	}
}

func (m *naive) alone() {
	switch m.code.Name {
	case "MUL":
		m.setYA(m.y * m.a)
		m.nz(m.y, 8)
	case "DIV":
		m.h = truth(m.y%16 >= m.x%16)
		q, rest := 65535, m.a
		if m.x > 0 {
			q, rest = m.ya()/m.x, m.ya()%m.x
		}
		m.v = truth(q > 255)
		m.a, m.y = m.nz(q%256, 8), rest
	case "DAA":
		if m.c == 1 || m.a > 9*16+9 {
			m.a, m.c = (m.a+6*16)%256, 1
		}
		if m.h == 1 || m.a%16 > 9 {
			m.a = (m.a + 6) % 256
		}
		m.nz(m.a, 8)
	case "DAS":
		if m.c == 0 || m.a > 9*16+9 {
			m.a, m.c = (m.a+160)%256, 0
		}
		if m.h == 0 || m.a%16 > 9 {
			m.a = (m.a + 250) % 256
		}
		m.nz(m.a, 8)
	case "XCN":
		m.a = m.nz(m.a%16*16+m.a/16, 8)
	}
}

func (m *naive) far() {
	switch m.code.Name {
	case "JMP":
		m.pc = m.places[0]
		if m.code.Form == "*" {
			m.pc = m.word(m.places[0] + m.x)
		}
	case "CALL", "PCALL":
		m.pushPc()
		m.pc = m.nums['a'] + truth(m.code.Form == "u")*0xff00 + m.nums['u']
	case "TCALL":
		m.pushPc()
		m.pc = m.word(0xffde - int(m.code.Code)/16*2)
	case "BRK":
		m.pushPc()
		m.push(m.psw())
		m.b, m.i = 1, 0
		m.pc = m.word(0xffde)
	case "RETI":
		m.flags(m.pop())
		fallthrough
	case "RET":
		low := m.pop()
		m.pc = low + 256*m.pop()
	}
}

func (m *naive) flagged() {
	switch m.code.Name {
	case "BRA":
		m.goIf(true)
	case "BPL", "BMI":
		m.goIf(m.n == truth(m.code.Name == "BMI"))
	case "BVC", "BVS":
		m.goIf(m.v == truth(m.code.Name == "BVS"))
	case "BCC", "BCS":
		m.goIf(m.c == truth(m.code.Name == "BCS"))
	case "BNE", "BEQ":
		m.goIf(m.z == truth(m.code.Name == "BEQ"))
	case "CLRC", "SETC":
		m.c = truth(m.code.Name == "SETC")
	case "NOTC":
		m.c = 1 - m.c
	case "CLRP", "SETP":
		m.p = truth(m.code.Name == "SETP")
	case "EI", "DI":
		m.i = truth(m.code.Name == "EI")
	case "CLRV":
		m.v, m.h = 0, 0
	case "NOP":
	default:
		panic("the test has no " + m.code.Name)
	}
}

// naiveCourse is Course by the chapter's words.
func naiveCourse(r api.Pegs, seen []uint8) ([]api.Access, bool, api.Pegs) {
	m := naiveOf(r, func(_, nth int) int {
		if nth < len(seen) {
			return int(seen[nth])
		}
		return 0
	})
	list := m.run()
	if m.reads <= len(seen) {
		return list, true, m.pegs()
	}
	nth := 0
	for k, a := range list {
		if a.Kind != api.Read {
			continue
		}
		if nth == len(seen) {
			return list[:k+1], false, api.Pegs{}
		}
		nth++
	}
	panic("the test counts reads otherwise than it makes them")
}

// naiveRun is Run by the chapter's words, on a memory that it changes.
func naiveRun(r api.Pegs, memory []uint8) ([]api.Access, api.Pegs) {
	var m *naive
	m = naiveOf(r, func(addr, _ int) int {
		for _, a := range m.list {
			if a.Kind == api.Write {
				memory[a.Addr] = a.Value
			}
		}
		return int(memory[addr])
	})
	list := m.run()
	return list, m.pegs()
}

// some is a byte, often one at an edge.
func some(r *rand.Rand) uint8 {
	if r.Intn(3) == 0 {
		return []uint8{0, 1, 0x0f, 0x10, 0x7f, 0x80, 0x99, 0xfe, 0xff}[r.Intn(9)]
	}
	return uint8(r.Intn(256))
}

// somePegs is registers of a processor that has not halted.
func somePegs(r *rand.Rand) api.Pegs {
	return api.Pegs{A: some(r), X: some(r), Y: some(r), S: some(r), Psw: uint8(r.Intn(256)), Pc: uint16(some(r))<<8 | uint16(some(r))}
}
