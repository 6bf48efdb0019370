package board_test

import (
	"testing"

	"lanthorn/api"
	"lanthorn/cart"
)

// area is a line of the chapter's table: in these banks and places stand these bytes, from the bank, modulo so many, times the size, and the place, and more, on.
type area struct {
	from, to, low, high uint32
	kind                uint8
	modulo, size, more  int
}

// areas are the lines of a layout's table, in their order; the first one that fits holds.
func areas(layout uint8) []area {
	if layout == api.LayoutLo {
		return []area{
			{0x7e, 0x7f, 0, 0xffff, none, 1, 0, 0},
			{0x70, 0x7d, 0, 0x7fff, ram, 16, 0x8000, 0},
			{0xf0, 0xff, 0, 0x7fff, ram, 16, 0x8000, 0},
			{0x00, 0xff, 0x8000, 0xffff, rom, 128, 0x8000, -0x8000},
		}
	}
	beyond := 0
	if layout == api.LayoutExHi {
		beyond = 0x400000
	}
	return []area{
		{0x7e, 0x7f, 0, 0xffff, none, 1, 0, 0},
		{0x20, 0x3f, 0x6000, 0x7fff, ram, 32, 0x2000, -0x6000},
		{0xa0, 0xbf, 0x6000, 0x7fff, ram, 32, 0x2000, -0x6000},
		{0x40, 0x7d, 0, 0xffff, rom, 64, 0x10000, beyond},
		{0xc0, 0xff, 0, 0xffff, rom, 64, 0x10000, 0},
		{0x00, 0x3f, 0x8000, 0xffff, rom, 64, 0x10000, beyond},
		{0x80, 0xbf, 0x8000, 0xffff, rom, 64, 0x10000, 0},
	}
}

// naive is what stands at an address of 24 bits.
func naive(l []area, romSize, ramSize int, addr uint32) api.Spot {
	bank, place := addr/65536, addr%65536
	for _, a := range l {
		if bank < a.from || bank > a.to || place < a.low || place > a.high || a.kind == ram && ramSize == 0 {
			continue
		}
		at := int(bank)%a.modulo*a.size + int(place) + a.more
		switch a.kind {
		case ram:
			return api.Spot{Kind: ram, At: at % ramSize}
		case rom:
			return api.Spot{Kind: rom, At: cart.Place(at, romSize)}
		}
		return api.Spot{}
	}
	return api.Spot{}
}

// asked are the bytes of which Where is held against the table: for each kind of spots which ones.
func asked(romSize, ramSize int) [3][]bool {
	marks := [3][]bool{rom: make([]bool, romSize), ram: make([]bool, ramSize)}
	for _, l := range marks[rom:] {
		n := len(l)
		for _, at := range []int{0, 1, n / 3, n / 2, n - 1} {
			if at >= 0 && at < n {
				l[at] = true
			}
		}
	}
	return marks
}

// wantTable holds all addresses of a board against the chapter's table: what stands there, what is read, and where some bytes stand.
func wantTable(t *testing.T, layout uint8, romSize, ramSize int) {
	t.Helper()
	c := plain(layout, romSize, ramSize)
	b := made(t, c)
	memory := counted(ramSize)
	b.SetRam(memory)
	l, marks := areas(layout), asked(romSize, ramSize)
	where := map[api.Spot][]uint32{}
	for addr := range uint32(1 << 24) {
		want := naive(l, romSize, ramSize, addr)
		if s := b.Decode(addr); s != want {
			t.Fatalf("the layout %d, %x bytes, %x: Decode(%06x): %d, %x, want %d, %x", layout, romSize, ramSize, addr, s.Kind, s.At, want.Kind, want.At)
		}
		if v, ok := b.Read(addr); v != standing(want, c.Rom, memory) || ok != (want.Kind != none) {
			t.Fatalf("the layout %d, %x bytes, %x: Read(%06x): %02x, %v", layout, romSize, ramSize, addr, v, ok)
		}
		if want.Kind != none && marks[want.Kind][want.At] {
			where[want] = append(where[want], addr)
		}
	}
	for kind, l := range marks {
		for at, is := range l {
			if is {
				s := api.Spot{Kind: uint8(kind), At: at}
				wantWhere(t, b, s, where[s]...)
			}
		}
	}
}

// standing is the byte that stands at a spot; 0, if none does.
func standing(s api.Spot, romBytes, ramBytes []uint8) uint8 {
	switch s.Kind {
	case rom:
		return romBytes[s.At]
	case ram:
		return ramBytes[s.At]
	}
	return 0
}

// P4.2, P4.3: all addresses of boards of all layouts, with roms and memories of even and of odd sizes.
func TestTable(t *testing.T) {
	for _, size := range [][2]int{{0x8000, 0x800}, {0x280000, 0}, {api.MaxCart, 524288}, {0x54321, 10007}} {
		for _, layout := range []uint8{api.LayoutLo, api.LayoutHi, api.LayoutExHi} {
			wantTable(t, layout, size[0], size[1])
		}
	}
}

// P4.2, P4.3: small roms and memories, which come again and again within a bank.
func TestTableSmall(t *testing.T) {
	wantTable(t, api.LayoutLo, 100, 77)
	wantTable(t, api.LayoutHi, 0x1801, 100)
}
