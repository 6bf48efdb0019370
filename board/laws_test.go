package board_test

import (
	"bytes"
	"testing"

	"lanthorn/api"
	"lanthorn/board"
)

// reached is how many bytes of a kind stand somewhere.
func reached(b *board.Board, kind uint8, size int) int {
	seen := make([]bool, size)
	n := 0
	for addr := range uint32(1 << 24) {
		if s := b.Decode(addr); s.Kind == kind && !seen[s.At] {
			seen[s.At] = true
			n++
		}
	}
	return n
}

// P4.4: each byte of a memory, of a rom stands somewhere, up to the sizes that the chapter names.
func TestAllStand(t *testing.T) {
	for _, r := range []struct {
		layout           uint8
		romSize, ramSize int
		kind             uint8
	}{
		{api.LayoutLo, 0x8000, 0x8000, ram},
		{api.LayoutLo, 0x8000, 0x800, ram},
		{api.LayoutHi, 0x8000, 0x2000, ram},
		{api.LayoutExHi, 0x8000, 0x2000, ram},
		{api.LayoutExHi, 0x8000, 1, ram},
		{api.LayoutLo, 0x400000, 0x8000, rom},
		{api.LayoutLo, 0x3fffff, 0, rom},
		{api.LayoutLo, 0x54321, 0x800, rom},
		{api.LayoutHi, 0x400000, 0x2000, rom},
		{api.LayoutHi, 0x10000, 0, rom},
		{api.LayoutHi, 1, 0, rom},
	} {
		b := made(t, plain(r.layout, r.romSize, r.ramSize))
		size := r.romSize
		if r.kind == ram {
			size = r.ramSize
		}
		if n := reached(b, r.kind, size); n != size {
			t.Errorf("the layout %d, %x bytes, %x: %x of the kind %d stand somewhere", r.layout, r.romSize, r.ramSize, n, r.kind)
		}
	}
}

// P4.4: from the bank 80 on stands what stands 80 banks ahead, but of ExHi.
func TestUpperBanks(t *testing.T) {
	for _, layout := range []uint8{api.LayoutLo, api.LayoutHi, api.LayoutExHi} {
		b := made(t, plain(layout, 0x410000, 0x40000))
		unlike := 0
		for addr := range uint32(0x800000) {
			if addr < 0x7e0000 && b.Decode(addr) != b.Decode(addr+0x800000) {
				unlike++
			}
		}
		if layout == api.LayoutExHi {
			if unlike == 0 {
				t.Error("ExHi has the same rom in both halves")
			}
		} else if unlike != 0 {
			t.Errorf("the layout %d: %d addresses are unlike", layout, unlike)
		}
	}
}

// P4.4: what is written to the memory is read wherever that byte stands, nothing else changes, and the rom never does.
func TestWritten(t *testing.T) {
	for _, layout := range []uint8{api.LayoutLo, api.LayoutHi, api.LayoutExHi} {
		c := plain(layout, 0x30000, 0x1800)
		b := made(t, c)
		memory := counted(c.Ram)
		b.SetRam(memory)
		for _, at := range []int{0, 0x1234, 0x17ff} {
			for addr := range b.Where(api.Spot{Kind: ram, At: at}) {
				memory[at]++
				wantWrite(t, b, addr, memory[at], true)
				wantAll(t, b, layout, c.Rom, memory)
				break
			}
		}
		for addr := range uint32(1 << 24) {
			s := b.Decode(addr)
			if b.Write(addr, uint8(addr*3)) != (s.Kind != none) {
				t.Fatalf("the layout %d: Write(%06x)", layout, addr)
			}
			if s.Kind == ram {
				memory[s.At] = uint8(addr * 3)
			}
		}
		wantAll(t, b, layout, c.Rom, memory)
	}
}

// wantAll holds what is read at all addresses against what the rom and the memory are to be.
func wantAll(t *testing.T, b *board.Board, layout uint8, romBytes, ramBytes []uint8) {
	t.Helper()
	if !bytes.Equal(b.Ram(), ramBytes) {
		t.Errorf("the layout %d: another memory", layout)
	}
	for addr := range uint32(1 << 24) {
		s := b.Decode(addr)
		if v, ok := b.Read(addr); v != standing(s, romBytes, ramBytes) || ok != (s.Kind != none) {
			t.Fatalf("the layout %d: Read(%06x): %02x, %v", layout, addr, v, ok)
		}
	}
}
