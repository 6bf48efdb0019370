package exec_test

import (
	"bytes"
	"math/rand"
	"slices"
	"testing"

	"lanthorn/api"
	"lanthorn/codes"
	"lanthorn/exec"
	"lanthorn/reach"
)

// count is how many of the accesses are of a kind.
func count(l []api.Access, kind uint8) int {
	n := 0
	for _, a := range l {
		if a.Kind == kind {
			n++
		}
	}
	return n
}

// wantLonger asks that each beginning of the bytes seen gives a beginning of the whole turn, and whether it is done.
func wantLonger(t *testing.T, turn func(seen []uint8) api.Turn, seen []uint8) {
	t.Helper()
	all := turn(seen)
	reads := count(all.List, api.Read)
	if !all.Done {
		t.Fatalf("of % x: not done, %+v", seen, all)
	}
	for n := range seen {
		got := turn(seen[:n])
		switch {
		case n >= reads:
			if !same(got, all) {
				t.Fatalf("of % x: %+v, of % x: %+v", seen[:n], got, seen, all)
			}
		case got.Done || got.Regs != (api.Regs{}) || got.After != 0:
			t.Fatalf("of % x: %+v", seen[:n], got)
		case len(got.List) > len(all.List) || !slices.Equal(got.List, all.List[:len(got.List)]):
			t.Fatalf("of % x: %x, of % x: %x", seen[:n], got.List, seen, all.List)
		case count(got.List, api.Read) != n+1 || got.List[len(got.List)-1].Kind != api.Read:
			t.Fatalf("of % x: it stops behind %x", seen[:n], got.List)
		}
	}
}

// P8.3: a longer row of bytes seen only lengthens a turn; bytes beyond its reads change nothing.
func TestLongerRows(t *testing.T) {
	r := rand.New(rand.NewSource(83))
	for code := range 256 {
		for range 100 {
			regs := someRegs(r)
			seen := []uint8{uint8(code)}
			for range 11 {
				seen = append(seen, uint8(some(r)))
			}
			wantLonger(t, func(l []uint8) api.Turn { return exec.Course(regs, l) }, seen)
			wantLonger(t, func(l []uint8) api.Turn { return exec.Enter(uint8(code%4), regs, l) }, seen)
		}
	}
}

// writes are the names of the groups that may write.
func writes(name string) bool {
	return slices.Contains([]string{
		"STA", "STX", "STY", "STZ", "ASL", "ROL", "LSR", "ROR", "INC", "DEC", "TSB", "TRB",
		"PHA", "PHX", "PHY", "PHD", "PHB", "PHK", "PHP", "PEA", "PEI", "PER",
		"JSR", "JSL", "BRK", "COP", "MVN", "MVP",
	}, name)
}

// P8.3: how many accesses a turn has, of which form; its registers are settled.
func TestAccesses(t *testing.T) {
	r := rand.New(rand.NewSource(831))
	most := 0
	for c := range codes.All() {
		for range 300 {
			regs := someRegs(r)
			got := exec.Course(regs, []uint8{c.Code, uint8(some(r)), uint8(some(r)), uint8(some(r)), uint8(some(r)), uint8(some(r)), uint8(some(r)), uint8(some(r)), uint8(some(r))})
			if len(got.List) < 2 || len(got.List) > 9 || got.List[0] != read(uint32(regs.K)<<16|uint32(regs.PC)) {
				t.Errorf("%s of %+v: %x", c.Name, regs, got.List)
			}
			for _, a := range got.List {
				if a.Kind > api.Write || a.Addr >= 1<<24 || a.Kind != api.Write && a.Value != 0 || a.Kind == api.Idle && a.Addr != 0 {
					t.Errorf("%s of %+v: %x", c.Name, regs, a)
				}
			}
			if !got.Done || got.Regs != reach.Settle(got.Regs) {
				t.Errorf("%s of %+v: %+v", c.Name, regs, got.Regs)
			}
			if !writes(c.Name) && count(got.List, api.Write) > 0 {
				t.Errorf("%s of %+v writes: %x", c.Name, regs, got.List)
			}
			most = max(most, len(got.List))
		}
	}
	if most != 9 {
		t.Errorf("no turn has more than %d accesses", most)
	}
}

// P8.3: a branch changes PC alone.
func TestBranchesAlone(t *testing.T) {
	r := rand.New(rand.NewSource(832))
	for _, name := range []string{"BPL", "BMI", "BVC", "BVS", "BCC", "BCS", "BNE", "BEQ", "BRA", "BRL"} {
		code := codes.Named(name)[0]
		for range 300 {
			regs := reach.Settle(someRegs(r))
			got := exec.Course(regs, []uint8{code, uint8(some(r)), uint8(some(r))})
			regs.PC = got.Regs.PC
			if !got.Done || got.Regs != regs || count(got.List, api.Write) > 0 {
				t.Fatalf("%s: %+v, of %+v", name, got, regs)
			}
		}
	}
}

// memory is bytes by addresses; those that are not there are 0.
type memory map[uint32]uint8

// lay lays bytes from an address on.
func (m memory) lay(addr uint32, b ...uint8) {
	for i, v := range b {
		m[addr+uint32(i)] = v
	}
}

// do carries out the instruction that is next, byte by byte.
func (m memory) do(t *testing.T, r api.Regs) api.Regs {
	t.Helper()
	var seen []uint8
	for at := 0; ; at++ {
		turn := exec.Course(r, seen)
		if at == len(turn.List) && turn.Done {
			return turn.Regs
		}
		if at >= len(turn.List) {
			t.Fatalf("no access %d of %+v", at, turn)
		}
		switch a := turn.List[at]; a.Kind {
		case api.Read:
			seen = append(seen, m[a.Addr])
		case api.Write:
			m[a.Addr] = a.Value
		}
	}
}

// placed is registers whose program and stack do not lie over one another.
func placed(r *rand.Rand) api.Regs {
	regs := someRegs(r)
	regs.K, regs.PC = 0x80, 0x8000
	return reach.Settle(regs)
}

// P8.4: what is pushed is pulled again, with S as it was.
func TestPushPull(t *testing.T) {
	r := rand.New(rand.NewSource(84))
	for name, back := range map[string]string{"PHA": "PLA", "PHX": "PLX", "PHY": "PLY", "PHD": "PLD", "PHB": "PLB", "PHP": "PLP"} {
		for range 500 {
			m := memory{}
			m.lay(0x808000, codes.Named(name)[0], codes.Named(back)[0])
			regs := placed(r)
			got := m.do(t, m.do(t, regs))
			want := regs
			want.PC = 0x8002
			if name != "PHP" { // all but P set N and Z by what they pull
				want.P = want.P&^(fN|fZ) | got.P&(fN|fZ)
			}
			if got != want {
				t.Fatalf("%s, %s: %+v, of %+v", name, back, got, regs)
			}
		}
	}
}

// P8.4: what is pulled is what was pushed, even if the register has changed in between.
func TestPullOther(t *testing.T) {
	for _, p := range []uint8{0, fM, fX, fM | fX} {
		m := memory{}
		m.lay(0x808000, codes.Named("PHA")[0], 0xa9, 0x55, 0x66, 0x77)
		regs := m.do(t, like(a(0x1234), flags(p)))
		regs = m.do(t, regs)
		m.lay(0x800000|uint32(regs.PC), codes.Named("PLA")[0])
		if regs = m.do(t, regs); regs.A != 0x1234 || regs.S != 0x1ff {
			t.Errorf("with the flags %02x: %+v", p, regs)
		}
	}
}

// P8.4: calls come back behind the call, with S as it was.
func TestCallAndBack(t *testing.T) {
	r := rand.New(rand.NewSource(841))
	for range 500 {
		for _, call := range []struct {
			code []uint8
			back uint8
			to   uint32
		}{
			{[]uint8{0x20, 0x00, 0x90}, 0x60, 0x809000},
			{[]uint8{0xfc, 0x00, 0xa0}, 0x60, 0x809000},
			{[]uint8{0x22, 0x00, 0x90, 0x81}, 0x6b, 0x819000},
		} {
			m := memory{}
			regs := placed(r)
			regs.X %= 0x5ff0 // so that the list of places does not lie over the program
			m.lay(0x80a000+uint32(regs.X), 0x00, 0x90)
			m.lay(0x808000, call.code...)
			m.lay(call.to, call.back)
			in := m.do(t, regs)
			if at := uint32(in.K)<<16 | uint32(in.PC); at != call.to {
				t.Fatalf("% x: at %06x", call.code, at)
			}
			want := regs
			want.PC += uint16(len(call.code))
			if got := m.do(t, in); got != want {
				t.Fatalf("% x: %+v, of %+v", call.code, got, regs)
			}
		}
	}
}

// P8.4: XCE twice changes nothing but by settling.
func TestElderTwice(t *testing.T) {
	r := rand.New(rand.NewSource(842))
	for range 2000 {
		m := memory{}
		m.lay(0x808000, 0xfb, 0xfb)
		regs := placed(r)
		got := m.do(t, m.do(t, regs))
		want := regs
		want.PC += 2
		if regs.E || regs.P&fC != 0 { // it emulates its elder once
			want.E = true
			want = reach.Settle(want)
			want.E = regs.E
		}
		if got != want {
			t.Fatalf("XCE twice: %+v, of %+v", got, regs)
		}
	}
}

// R3: what is handed in is not changed, the room behind its end neither; what is answered is new memory.
func TestNothingShared(t *testing.T) {
	room := []uint8{0xa5, 0x10, 0x34, 0x12, 5, 6}
	was := slices.Clone(room)
	turn := exec.Course(like(), room[:4])
	again := exec.Course(like(), room[:4])
	irq, other := exec.Enter(api.WhyIRQ, like(), room[:2]), exec.Enter(api.WhyIRQ, like(), room[:2])
	turn.List[0].Addr, irq.List[2].Value = 9, 9
	_ = append(turn.List, write(1, 2))
	if !bytes.Equal(room, was) || again.List[0] != read(0x808000) || other.List[2] != write(0x1ff, 0x80) {
		t.Error("a turn shares its bytes, or its accesses")
	}
}
