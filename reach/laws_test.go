package reach_test

import (
	"bytes"
	"math/rand"
	"slices"
	"testing"

	"lanthorn/api"
	"lanthorn/codes"
	"lanthorn/reach"
)

// P7.4: a longer row of bytes seen only lengthens a course, and bytes beyond its reads change nothing.
func TestLongerRows(t *testing.T) {
	r := rand.New(rand.NewSource(74))
	for range 20000 {
		c, regs := someCode(r), someRegs(r)
		seen := []uint8{uint8(some(r)), uint8(some(r)), uint8(some(r)), uint8(some(r)), uint8(some(r)), uint8(some(r))}
		all, p, pc, ok := reach.Course(c, regs, seen)
		if !ok {
			t.Fatalf("Course of %+v, %+v, seen % x: not known", c, regs, seen)
		}
		for n := range seen {
			list, q, next, ok := reach.Course(c, regs, seen[:n])
			if len(list) > len(all) || !slices.Equal(list, all[:len(list)]) {
				t.Fatalf("Course of %+v, %+v: % x gives %x, % x gives %x", c, regs, seen[:n], list, seen, all)
			}
			if known := reads(all) <= n; ok != known || known && (q != p || next != pc || len(list) != len(all)) {
				t.Fatalf("Course of %+v, %+v, seen % x: %x, %s, %04x, %v", c, regs, seen[:n], list, told(q), next, ok)
			}
			if !ok && (reads(list) != n+1 || list[len(list)-1].Kind != api.Read) {
				t.Fatalf("Course of %+v, %+v, seen % x: it stops behind %x", c, regs, seen[:n], list)
			}
		}
	}
}

// reads is how many of the accesses read.
func reads(l []api.Access) int {
	n := 0
	for _, a := range l {
		if a.Kind == api.Read {
			n++
		}
	}
	return n
}

// P7.4: a course has 1 to 8 accesses, reads and idles, whose addresses have 24 bits; the code's operand is fetched first.
func TestAccesses(t *testing.T) {
	r := rand.New(rand.NewSource(741))
	for c := range codes.All() {
		if rows[c.Mode] == "" {
			continue
		}
		for range 200 {
			regs := someRegs(r)
			list, p, pc, _ := reach.Course(c, regs, make([]uint8, 8))
			if len(list) < 1 || len(list) > 8 || p.Addr >= 1<<24 {
				t.Errorf("Course of %+v, %+v: %x, %s", c, regs, list, told(p))
			}
			for _, a := range list {
				if a.Kind > api.Read || a.Addr >= 1<<24 || a.Value != 0 || a.Kind == api.Idle && a.Addr != 0 {
					t.Errorf("Course of %+v, %+v: %x", c, regs, a)
				}
			}
			if size := uint16(codes.Size(c.Code, 0)) - 1; pc != regs.PC+size {
				t.Errorf("Course of %+v, %+v: PC %04x", c, regs, pc)
			}
		}
	}
}

// P7.4: Settle of Settle is Settle.
func TestSettleTwice(t *testing.T) {
	r := rand.New(rand.NewSource(742))
	for range 20000 {
		once := reach.Settle(someRegs(r))
		if twice := reach.Settle(once); twice != once {
			t.Fatalf("Settle(%+v): %+v", once, twice)
		}
	}
}

// P7.4: in the bank 0 with Bank a place stays there, and comes back behind all others.
func TestBankNought(t *testing.T) {
	p := near(0)
	for i := range 65536 {
		if p != near(uint32(i)) {
			t.Fatalf("behind %d steps: %s", i, told(p))
		}
		p = reach.Next(p)
	}
	if p != near(0) {
		t.Errorf("behind all: %s", told(p))
	}
}

// R3: what is handed in is not changed, the room behind its end neither; what is answered is new memory.
func TestNothingShared(t *testing.T) {
	room := []uint8{0x20, 1, 2, 3, 4, 5}
	was := slices.Clone(room)
	code := api.Code{Mode: api.ModeIndLong}
	list, _, _, _ := reach.Course(code, example(), room[:2])
	again, _, _, _ := reach.Course(code, example(), room[:2])
	list[0].Addr = 9
	_ = append(list, write(1, 2))
	if !bytes.Equal(room, was) || again[0] != read(0x808001) {
		t.Error("Course shares its bytes")
	}
	data := reach.Data(far(5), api.Write, 0x1234, true)
	data[0].Addr = 9
	if other := reach.Data(far(5), api.Write, 0x1234, true); other[0] != write(5, 0x34) {
		t.Error("Data shares its accesses")
	}
}
