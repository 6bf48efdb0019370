package tune_test

import (
	"math/rand"
	"slices"
	"testing"

	"lanthorn/api"
	"lanthorn/notes"
	"lanthorn/tune"
)

// count is how many of the accesses are of a kind.
func count(l []api.Access, kind uint8) int {
	n := 0
	for _, a := range l {
		if a.Kind == kind {
			n++
		}
	}
	return n
}

// branches tells of the names that may branch.
func branches(form string) bool { return form != "" && form[len(form)-1] == 'r' }

// P11.3: with more bytes Course says what it said, and perhaps more; the registers hang on the bytes that are read alone.
func TestLonger(t *testing.T) {
	r := rand.New(rand.NewSource(113))
	for code := range 256 {
		for range 100 {
			regs := somePegs(r)
			l := seen(uint8(code), some(r), some(r), some(r), some(r), some(r))
			all, done, behind := tune.Course(regs, l)
			reads := count(all, api.Read)
			if !done {
				t.Fatalf("% X of %+v is not done", l, regs)
			}
			for n := range reads {
				part, done, none := tune.Course(regs, l[:n])
				if done || none != (api.Pegs{}) || len(part) > len(all) || !slices.Equal(part, all[:len(part)]) || count(part, api.Read) != n+1 || part[len(part)-1].Kind != api.Read {
					t.Fatalf("% X of %+v: %X, %v, of all: %X", l[:n], regs, part, done, all)
				}
			}
			other := append(l[:reads:reads], some(r), some(r), some(r))
			if same, done, too := tune.Course(regs, other); !slices.Equal(same, all) || !done || too != behind {
				t.Fatalf("% X of %+v: %X, %+v, of % X: %X, %+v", l, regs, all, behind, other, same, too)
			}
		}
	}
}

// P11.3: how many accesses there are, of which form.
func TestAccesses(t *testing.T) {
	r := rand.New(rand.NewSource(114))
	for c := range notes.All() {
		short, long := 0, 0
		for range 400 {
			regs := somePegs(r)
			l, _, _ := tune.Course(regs, seen(c.Code, some(r), some(r), some(r), some(r), some(r)))
			switch len(l) {
			case c.Cycles:
				short++
			case c.Cycles + 2:
				long++
			default:
				t.Fatalf("%+v of %+v: %X", c, regs, l)
			}
			if len(l) < 2 || c.Cycles > 12 || l[0] != read(uint32(regs.Pc)) {
				t.Fatalf("%+v of %+v: %X", c, regs, l)
			}
			for _, a := range l {
				if a.Kind > api.Write || a.Addr >= 1<<16 || a.Kind != api.Write && a.Value != 0 || a.Kind == api.Idle && a.Addr != 0 {
					t.Fatalf("%+v of %+v: %X", c, regs, a)
				}
			}
		}
		if (long > 0) != branches(c.Form) || (short > 0) != (c.Name != "BRA") {
			t.Errorf("%+v: %d times without a branch, %d times with one", c, short, long)
		}
	}
}

// P11.3: a processor that has halted does nothing for ever.
func TestHalted(t *testing.T) {
	r := rand.New(rand.NewSource(115))
	memory := make([]uint8, 65536)
	r.Read(memory)
	for _, code := range []uint8{0xef, 0xff} {
		regs := somePegs(r)
		memory[regs.Pc] = code
		_, regs, _ = tune.Run(regs, memory)
		for range 10 {
			l, behind, e := tune.Run(regs, memory)
			if !slices.Equal(l, []api.Access{idle}) || behind != regs || !regs.Halt || e != api.OK {
				t.Fatalf("%X, %+v, %v, of %+v", l, behind, e, regs)
			}
		}
	}
}

// do carries out so many instructions, which stand from 0200 on, upon a memory that it changes.
func do(t *testing.T, r api.Pegs, memory []uint8, times int, code ...uint8) api.Pegs {
	t.Helper()
	copy(memory[0x200:], code)
	for range times {
		l, behind, e := tune.Run(r, memory)
		if e != api.OK {
			t.Fatal(e)
		}
		for _, a := range l {
			if a.Kind == api.Write {
				memory[a.Addr] = a.Value
			}
		}
		r = behind
	}
	return r
}

// tens is a number up to 99 in decimal digits.
func tens(n int) uint8 { return uint8(n/10*16 + n%10) }

// P11.1: a sum, or a difference, of decimal digits is one again, once it is adjusted.
func TestDecimal(t *testing.T) {
	memory := make([]uint8, 65536)
	for n := range 100 {
		for o := range 100 {
			for c := range 2 {
				r := api.Pegs{A: tens(n), Psw: uint8(c), Pc: 0x200}
				sum := do(t, r, memory, 2, 0x88, tens(o), 0xdf)
				if all := n + o + c; sum.A != tens(all%100) || int(sum.Psw&fC) != all/100 {
					t.Fatalf("%d and %d and %d: %02X, %02X", n, o, c, sum.A, sum.Psw)
				}
				less := do(t, r, memory, 2, 0xa8, tens(o), 0xbe)
				if all := n - o - 1 + c + 100; less.A != tens(all%100) || int(less.Psw&fC) != all/100 {
					t.Fatalf("%d less %d, %d: %02X, %02X", n, o, c, less.A, less.Psw)
				}
			}
		}
	}
}

// P11.1: how often, by the divisor, and what is left over, are what was divided; a product divided by one is the other.
func TestDivided(t *testing.T) {
	memory := make([]uint8, 65536)
	for n := 0; n < 65536; n += 7 {
		for _, by := range []uint8{1, 2, 3, 10, 0x7f, 0x80, 0xff} {
			r := do(t, api.Pegs{A: uint8(n), Y: uint8(n >> 8), X: by, Pc: 0x200}, memory, 1, 0x9e)
			often := int(r.A)
			if r.Psw&fV != 0 {
				often = n / int(by) // of which A has the lower byte alone
			}
			if r.Y >= by || often*int(by)+int(r.Y) != n || uint8(often) != r.A || (n/int(by) > 255) != (r.Psw&fV != 0) {
				t.Fatalf("%d by %d: %+v", n, by, r)
			}
		}
	}
	for n := range 65536 {
		f, by := uint8(n), uint8(n>>8)
		if by == 0 {
			continue
		}
		r := do(t, api.Pegs{A: f, Y: by, X: by, Pc: 0x200}, memory, 2, 0xcf, 0x9e)
		if r.A != f || r.Y != 0 || r.Psw&fV != 0 {
			t.Fatalf("%d times %d by %d: %+v", f, by, by, r)
		}
	}
}

// P11.1: what goes forth and back changes nothing but flags: pushed and popped, called and come back from, one more and one less, turned twice.
func TestForthAndBack(t *testing.T) {
	r := rand.New(rand.NewSource(116))
	for _, pair := range [][]uint8{
		{0x2d, 0xae}, {0x4d, 0xce}, {0x6d, 0xee}, {0x0d, 0x8e}, // PUSH, POP
		{0xbc, 0x9c}, {0x3d, 0x1d}, {0xfc, 0xdc}, {0x9c, 0xbc}, // INC, DEC
		{0x3a, 0x40, 0x1a, 0x40}, {0xab, 0x40, 0x8b, 0x40}, {0xea, 0x40, 0x60, 0xea, 0x40, 0x60}, // INCW, DECW; INC, DEC; NOT1
		{0x9f, 0x9f}, {0xed, 0xed}, {0x7a, 0x40, 0x9a, 0x40}, {0x3c, 0x7c}, {0xda, 0x40, 0xba, 0x40}, // XCN; NOTC; ADDW, SUBW; ROL, ROR; MOVW
	} {
		for range 200 {
			memory := make([]uint8, 65536)
			r.Read(memory)
			copy(memory[0x200:], pair)
			kept := [4]uint8(memory[0x40:])
			regs := somePegs(r)
			regs.Pc, regs.S, regs.Psw = 0x200, regs.S|0x80, regs.Psw&^fP
			first := pair[0]
			behind := do(t, regs, memory, 2, pair...)
			want := regs
			want.Pc += uint16(len(pair))
			const told = fN | fZ | fC | fV | fH
			want.Psw = want.Psw&^told | behind.Psw&told
			if first != 0xda && [4]uint8(memory[0x40:]) != kept || behind != want {
				t.Fatalf("% X: %+v, of %+v", pair, behind, regs)
			}
		}
	}
	for _, call := range [][]uint8{{0x3f, 0, 0x90, 0x6f}, {0x4f, 0x12, 0x6f}, {0x51, 0x6f}, {0x0f, 0x7f}} {
		for range 200 {
			memory := make([]uint8, 65536)
			regs := somePegs(r)
			regs.Pc = 0x200
			copy(memory[0x200:], call[:len(call)-1])
			in := do(t, regs, memory, 1)
			memory[in.Pc] = call[len(call)-1]
			want := regs
			want.Pc += uint16(len(call) - 1)
			if behind := do(t, in, memory, 1); behind != want {
				t.Fatalf("% X: %+v, of %+v", call, behind, regs)
			}
		}
	}
}
