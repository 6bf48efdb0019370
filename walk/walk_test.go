package walk_test

import (
	"slices"
	"testing"

	"lanthorn/api"
	"lanthorn/walk"
)

func read(addr uint32) api.Access           { return api.Access{Kind: api.Read, Addr: addr} }
func write(addr uint32, v uint8) api.Access { return api.Access{Kind: api.Write, Addr: addr, Value: v} }

func walker(seen ...uint8) walk.Walker {
	return walk.Walker{Regs: api.Regs{K: 0x80, PC: 0xfffe}, Seen: seen}
}

func wantWalked(t *testing.T, w walk.Walker, stopped bool, list ...api.Access) {
	t.Helper()
	if !slices.Equal(w.List, list) || w.Stopped != stopped {
		t.Errorf("%x, stopped %v, want %x", w.List, w.Stopped, list)
	}
}

// What is fetched, read and written wraps round within its bank, the lower byte first.
func TestWithinBanks(t *testing.T) {
	w := walker(0x34, 0x12, 0x56, 0x78, 0x9a)
	if n := w.Fetch(3); n != 0x561234 || w.PC != 1 {
		t.Errorf("fetched %x, PC %04x", n, w.PC)
	}
	if n := w.ReadAt(0x7e, 0x1ffff, 2); n != 0x9a78 {
		t.Errorf("read %x", n)
	}
	w.WriteAt(0, 0x10001, 5)
	w.Idle()
	wantWalked(t, w, false, read(0x80fffe), read(0x80ffff), read(0x800000), read(0x7effff), read(0x7e0000), write(1, 5), api.Access{})
}

// Behind the first read of which the byte was not seen nothing is kept, and noughts are read.
func TestStops(t *testing.T) {
	w := walker(0x34)
	if n := w.Fetch(2); n != 0x34 {
		t.Errorf("fetched %x", n)
	}
	w.Idle()
	w.WriteAt(0, 1, 2)
	if w.Read(9) != 0 || w.Carry([]api.Access{read(1), write(2, 3)}) != 0 {
		t.Error("what was not seen is no nought")
	}
	wantWalked(t, w, true, read(0x80fffe), read(0x80ffff))
}

// Accesses that are carried out take the bytes seen, as if they had been walked.
func TestCarry(t *testing.T) {
	w := walker(0x34, 0x12, 0x56)
	if n := w.Carry([]api.Access{read(1), {}, write(2, 9), read(3)}); n != 0x1234 {
		t.Errorf("carried %x", n)
	}
	wantWalked(t, w, false, read(1), api.Access{}, write(2, 9), read(3))
	if v := w.Read(4); v != 0x56 {
		t.Errorf("the next byte: %x", v)
	}
	if n := w.Carry([]api.Access{read(5), read(6)}); n != 0 {
		t.Errorf("carried %x", n)
	}
	wantWalked(t, w, true, read(1), api.Access{}, write(2, 9), read(3), read(4), read(5))
}
