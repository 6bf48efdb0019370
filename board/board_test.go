package board_test

import (
	"bytes"
	"math"
	"slices"
	"testing"

	"lanthorn/api"
	"lanthorn/board"
)

// The kinds of spots, short.
const (
	none = api.SpotNone
	rom  = api.SpotRom
	ram  = api.SpotRam
)

func noughts(n int) []uint8 { return make([]uint8, n) }

// counted is n bytes, of which neighbours and those far apart are unlike.
func counted(n int) []uint8 {
	b := noughts(n)
	for i := range b {
		b[i] = uint8(i + i>>8*3 + i>>16*5)
	}
	return b
}

// plain is a cartridge of a layout, a rom that is counted, and a memory.
func plain(layout uint8, romSize, ramSize int) api.Cart {
	return api.Cart{Layout: layout, Rom: counted(romSize), Ram: ramSize}
}

// made is the board of a cartridge that has one.
func made(t *testing.T, c api.Cart) *board.Board {
	t.Helper()
	b, e := board.New(c)
	if e != api.OK || b == nil {
		t.Fatalf("New of the layout %d, %d bytes, %d: %v", c.Layout, len(c.Rom), c.Ram, e)
	}
	return b
}

// here is an address, and what stands there.
type here struct {
	addr uint32
	kind uint8
	at   int
}

func wantHere(t *testing.T, b *board.Board, l []here) {
	t.Helper()
	for _, h := range l {
		if s := b.Decode(h.addr); s != (api.Spot{Kind: h.kind, At: h.at}) {
			t.Errorf("Decode(%06x): %d, %x, want %d, %x", h.addr, s.Kind, s.At, h.kind, h.at)
		}
	}
}

func wantRead(t *testing.T, b *board.Board, addr uint32, want uint8, there bool) {
	t.Helper()
	if v, ok := b.Read(addr); v != want || ok != there {
		t.Errorf("Read(%06x): %02x, %v, want %02x, %v", addr, v, ok, want, there)
	}
}

func wantWrite(t *testing.T, b *board.Board, addr uint32, v uint8, there bool) {
	t.Helper()
	if ok := b.Write(addr, v); ok != there {
		t.Errorf("Write(%06x, %02x): %v", addr, v, ok)
	}
}

func wantWhere(t *testing.T, b *board.Board, s api.Spot, want ...uint32) {
	t.Helper()
	if l := slices.Collect(b.Where(s)); !slices.Equal(l, want) {
		t.Errorf("Where(%d, %x): %d addresses, %06x .., want %d, %06x ..", s.Kind, s.At, len(l), l[:min(9, len(l))], len(want), want[:min(9, len(want))])
	}
}

// The chapter's examples, in their order.
func TestExamples(t *testing.T) {
	lo := made(t, plain(api.LayoutLo, 0x8000, 0x800))
	hi := made(t, plain(api.LayoutHi, 0x20000, 0x2000))
	wantHere(t, lo, []here{
		{0x008000, rom, 0}, {0x00ffff, rom, 0x7fff}, {0x018000, rom, 0}, {0x7e8000, none, 0}, {0x000000, none, 0},
		{0x700000, ram, 0}, {0x700800, ram, 0}, {0xf17fff, ram, 0x7ff}, {0x708000, rom, 0},
	})
	wantHere(t, hi, []here{
		{0xc00000, rom, 0}, {0x400001, rom, 1}, {0x008000, rom, 0x8000}, {0x018000, rom, 0x18000}, {0xc20000, rom, 0},
		{0x206000, ram, 0}, {0xa07fff, ram, 0x1fff}, {0x006000, none, 0}, {0x205fff, none, 0},
	})
	wantWrite(t, lo, 0x700000, 9, true)
	wantRead(t, lo, 0x700800, 9, true)
	wantWrite(t, lo, 0x008000, 9, true)
	wantWrite(t, lo, 0x000000, 9, false)
	wantNone(t, "the layout 0", plain(0, 0x8000, 0))
	wantNone(t, "no rom", plain(api.LayoutLo, 0, 0))
}

func wantNone(t *testing.T, why string, c api.Cart) {
	t.Helper()
	if b, e := board.New(c); e != api.ErrArg || b != nil {
		t.Errorf("New, %s: %v, a board: %v", why, e, b != nil)
	}
}

// P4.1: what has no board.
func TestNewErrors(t *testing.T) {
	for why, c := range map[string]api.Cart{
		"nothing":            {},
		"layout 0":           plain(0, 0x8000, 0x800),
		"layout 4":           plain(4, 0x8000, 0x800),
		"layout 255":         plain(255, 0x8000, 0x800),
		"nil rom":            {Layout: api.LayoutLo},
		"empty rom":          {Layout: api.LayoutHi, Rom: []uint8{}},
		"room behind no rom": {Layout: api.LayoutHi, Rom: noughts(9)[:0]},
		"rom too great":      plain(api.LayoutExHi, api.MaxCart+1, 0),
		"memory below 0":     plain(api.LayoutLo, 0x8000, -1),
		"least memory":       plain(api.LayoutHi, 0x8000, math.MinInt),
		"memory too great":   plain(api.LayoutHi, 0x8000, 524289),
		"greatest memory":    plain(api.LayoutLo, 0x8000, math.MaxInt),
	} {
		wantNone(t, why, c)
	}
}

// P4.1: what has one just so: its memory is noughts, other fields are not looked at.
func TestNew(t *testing.T) {
	for why, c := range map[string]api.Cart{
		"Lo":           plain(api.LayoutLo, 0x8000, 0x800),
		"Hi":           plain(api.LayoutHi, 0x10000, 0x800),
		"ExHi":         plain(api.LayoutExHi, 0x410000, 0x800),
		"least rom":    plain(api.LayoutLo, 1, 0),
		"greatest rom": plain(api.LayoutExHi, api.MaxCart, 0),
		"odd rom":      plain(api.LayoutHi, 0x12345, 0),
		"no memory":    plain(api.LayoutLo, 0x8000, 0),
		"least memory": plain(api.LayoutLo, 0x8000, 1),
		"odd memory":   plain(api.LayoutHi, 0x8000, 12345),
		"great memory": plain(api.LayoutHi, 0x8000, 524288),
		"other fields": {Layout: api.LayoutLo, Chip: 77, Rom: noughts(5), Title: "\x00 a title that is far too long ", Reset: 1, Signal: noughts(3)},
	} {
		b, e := board.New(c)
		if e != api.OK || !bytes.Equal(b.Ram(), noughts(c.Ram)) {
			t.Errorf("New, %s: %v, a memory of %d bytes", why, e, len(b.Ram()))
		}
	}
}

// P4.2: the edges of what stands where, of Lo.
func TestDecodeLo(t *testing.T) {
	b := made(t, plain(api.LayoutLo, 0x400000, 0x80000))
	wantHere(t, b, []here{
		{0x000000, none, 0}, {0x007fff, none, 0}, {0x008000, rom, 0}, {0x00ffff, rom, 0x7fff},
		{0x6f7fff, none, 0}, {0x6f8000, rom, 0x378000}, {0x700000, ram, 0}, {0x707fff, ram, 0x7fff}, {0x708000, rom, 0x380000},
		{0x7d0000, ram, 0x68000}, {0x7d7fff, ram, 0x6ffff}, {0x7d8000, rom, 0x3e8000}, {0x7dffff, rom, 0x3effff},
		{0x7e0000, none, 0}, {0x7e7fff, none, 0}, {0x7e8000, none, 0}, {0x7effff, none, 0},
		{0x7f0000, none, 0}, {0x7f7fff, none, 0}, {0x7f8000, none, 0}, {0x7fffff, none, 0},
		{0x800000, none, 0}, {0x807fff, none, 0}, {0x808000, rom, 0}, {0xefffff, rom, 0x37ffff}, {0xef7fff, none, 0},
		{0xf00000, ram, 0}, {0xfd7fff, ram, 0x6ffff}, {0xfe0000, ram, 0x70000}, {0xfe7fff, ram, 0x77fff},
		{0xff0000, ram, 0x78000}, {0xff7fff, ram, 0x7ffff}, {0xfe8000, rom, 0x3f0000}, {0xffffff, rom, 0x3fffff},
	})
	bare := made(t, plain(api.LayoutLo, 0x400000, 0))
	wantHere(t, bare, []here{
		{0x700000, none, 0}, {0x707fff, none, 0}, {0x708000, rom, 0x380000}, {0xf00000, none, 0}, {0xff7fff, none, 0}, {0xff8000, rom, 0x3f8000},
	})
	odd := made(t, plain(api.LayoutLo, 0x18000, 12345))
	wantHere(t, odd, []here{
		{0x028000, rom, 0x10000}, {0x038000, rom, 0x10000}, {0x048000, rom, 0}, {0x078001, rom, 0x10001},
		{0x703038, ram, 12344}, {0x703039, ram, 0}, {0x710000, ram, 0x8000 % 12345}, {0xff7fff, ram, 0x7ffff % 12345},
	})
}

// P4.2: the edges of what stands where, of Hi.
func TestDecodeHi(t *testing.T) {
	b := made(t, plain(api.LayoutHi, 0x400000, 0x40000))
	wantHere(t, b, []here{
		{0x000000, none, 0}, {0x007fff, none, 0}, {0x008000, rom, 0x8000}, {0x1f7fff, none, 0}, {0x1f6000, none, 0},
		{0x205fff, none, 0}, {0x206000, ram, 0}, {0x207fff, ram, 0x1fff}, {0x208000, rom, 0x208000},
		{0x216000, ram, 0x2000}, {0x3f6000, ram, 0x3e000}, {0x3f7fff, ram, 0x3ffff}, {0x3f5fff, none, 0}, {0x3fffff, rom, 0x3fffff},
		{0x400000, rom, 0}, {0x406000, rom, 0x6000}, {0x7d0000, rom, 0x3d0000}, {0x7dffff, rom, 0x3dffff},
		{0x7e0000, none, 0}, {0x7e6000, none, 0}, {0x7e8000, none, 0}, {0x7f0000, none, 0}, {0x7fffff, none, 0},
		{0x800000, none, 0}, {0x807fff, none, 0}, {0x808000, rom, 0x8000}, {0x9f6000, none, 0},
		{0xa06000, ram, 0}, {0xbf7fff, ram, 0x3ffff}, {0xbf8000, rom, 0x3f8000}, {0xa05fff, none, 0},
		{0xc00000, rom, 0}, {0xc06000, rom, 0x6000}, {0xfe0000, rom, 0x3e0000}, {0xff7fff, rom, 0x3f7fff}, {0xffffff, rom, 0x3fffff},
	})
	bare := made(t, plain(api.LayoutHi, 0x400000, 0))
	wantHere(t, bare, []here{{0x206000, none, 0}, {0xbf7fff, none, 0}, {0x208000, rom, 0x208000}, {0x606000, rom, 0x206000}})
	odd := made(t, plain(api.LayoutHi, 0x30000, 3000))
	wantHere(t, odd, []here{
		{0xc20000, rom, 0x20000}, {0xc30000, rom, 0x20000}, {0xc40000, rom, 0}, {0x038000, rom, 0x28000},
		{0x206bb7, ram, 2999}, {0x206bb8, ram, 0}, {0x216000, ram, 0x2000 % 3000},
	})
}

// P4.2: the edges of what stands where, of ExHi: below the bank 80 the rom goes on.
func TestDecodeExHi(t *testing.T) {
	b := made(t, plain(api.LayoutExHi, 0x800000, 0x40000))
	wantHere(t, b, []here{
		{0x000000, none, 0}, {0x007fff, none, 0}, {0x008000, rom, 0x408000}, {0x00ffff, rom, 0x40ffff},
		{0x206000, ram, 0}, {0x207fff, ram, 0x1fff}, {0x3f7fff, ram, 0x3ffff}, {0x3f8000, rom, 0x7f8000}, {0x3fffff, rom, 0x7fffff},
		{0x400000, rom, 0x400000}, {0x7dffff, rom, 0x7dffff}, {0x7e0000, none, 0}, {0x7effff, none, 0}, {0x7f8000, none, 0}, {0x7fffff, none, 0},
		{0x807fff, none, 0}, {0x808000, rom, 0x8000}, {0xa06000, ram, 0}, {0xbf7fff, ram, 0x3ffff}, {0xbfffff, rom, 0x3fffff},
		{0xc00000, rom, 0}, {0xffffff, rom, 0x3fffff},
	})
	odd := made(t, plain(api.LayoutExHi, 0x500000, 0))
	wantHere(t, odd, []here{{0x400000, rom, 0x400000}, {0x500000, rom, 0x400000}, {0x008000, rom, 0x408000}, {0x108000, rom, 0x408000}, {0xd00000, rom, 0x100000}})
	small := made(t, plain(api.LayoutExHi, 0x10000, 0))
	wantHere(t, small, []here{{0x008000, rom, 0x8000}, {0x401234, rom, 0x1234}, {0xc01234, rom, 0x1234}})
}

// An address is taken modulo 24 bits.
func TestAddressesWrapRound(t *testing.T) {
	b := made(t, plain(api.LayoutLo, 0x8000, 0x800))
	wantHere(t, b, []here{{0x01000000, none, 0}, {0x01008001, rom, 1}, {0xff700002, ram, 2}, {0xffffffff, rom, 0x7fff}, {0xff7e8000, none, 0}})
	wantWrite(t, b, 0x12700001, 7, true)
	wantRead(t, b, 0x700001, 7, true)
	wantRead(t, b, 0xab700001, 7, true)
	wantRead(t, b, 0x34008001, 1, true)
	wantRead(t, b, 0xff000000, 0, false)
	wantWrite(t, b, 0xff000000, 1, false)
}

// P4.2: where a byte stands.
func TestWhere(t *testing.T) {
	lo := made(t, plain(api.LayoutLo, 0x400000, 0x80000))
	wantWhere(t, lo, api.Spot{Kind: rom, At: 0}, 0x008000, 0x808000)
	wantWhere(t, lo, api.Spot{Kind: rom, At: 0x3effff}, 0x7dffff, 0xfdffff)
	wantWhere(t, lo, api.Spot{Kind: rom, At: 0x3f0000}, 0xfe8000)
	wantWhere(t, lo, api.Spot{Kind: rom, At: 0x3fffff}, 0xffffff)
	wantWhere(t, lo, api.Spot{Kind: ram, At: 0}, 0x700000, 0xf00000)
	wantWhere(t, lo, api.Spot{Kind: ram, At: 0x7ffff}, 0xff7fff)
	hi := made(t, plain(api.LayoutHi, 0x400000, 0x2000))
	wantWhere(t, hi, api.Spot{Kind: rom, At: 0x7fff}, 0x407fff, 0xc07fff)
	wantWhere(t, hi, api.Spot{Kind: rom, At: 0x8000}, 0x008000, 0x408000, 0x808000, 0xc08000)
	wantWhere(t, hi, api.Spot{Kind: rom, At: 0x3e0000}, 0xfe0000)
	wantWhere(t, hi, api.Spot{Kind: rom, At: 0x3fffff}, 0x3fffff, 0xbfffff, 0xffffff)
	exHi := made(t, plain(api.LayoutExHi, 0x800000, 0x40000))
	wantWhere(t, exHi, api.Spot{Kind: rom, At: 0}, 0xc00000)
	wantWhere(t, exHi, api.Spot{Kind: rom, At: 0x408000}, 0x008000, 0x408000)
	wantWhere(t, exHi, api.Spot{Kind: ram, At: 0x3ffff}, 0x3f7fff, 0xbf7fff)
}

// P4.2: bytes that stand nowhere, and spots that are no byte.
func TestWhereNowhere(t *testing.T) {
	exHi := made(t, plain(api.LayoutExHi, 0x800000, 0x80000))
	bare := made(t, plain(api.LayoutLo, 0x8000, 0))
	for _, s := range []api.Spot{
		{}, {Kind: none, At: 1}, {Kind: 3}, {Kind: 255}, {Kind: rom, At: -1}, {Kind: ram, At: -1},
		{Kind: rom, At: 0x800000}, {Kind: ram, At: 0x80000}, {Kind: rom, At: math.MaxInt}, {Kind: ram, At: math.MinInt},
		{Kind: rom, At: 0x7e0000}, {Kind: ram, At: 0x40000}, // these are bytes, but no address leads there
	} {
		wantWhere(t, exHi, s)
		wantWhere(t, bare, s)
	}
	wantWhere(t, bare, api.Spot{Kind: ram})
	wantWhere(t, bare, api.Spot{Kind: rom, At: 0x8000})
}

// R6: going through may be left early, and begun again.
func TestWhereLeft(t *testing.T) {
	b := made(t, plain(api.LayoutLo, 0x8000, 0x800))
	for _, s := range []api.Spot{{Kind: rom, At: 5}, {Kind: ram, At: 5}} {
		all := b.Where(s)
		want := slices.Collect(all)
		if len(want) < 100 || want[0] >= want[1] {
			t.Fatalf("Where(%d, %d): %d addresses", s.Kind, s.At, len(want))
		}
		for _, n := range []int{1, 2, 70, len(want)} {
			var l []uint32
			for addr := range all {
				l = append(l, addr)
				if len(l) == n {
					break
				}
			}
			if !slices.Equal(l, want[:n]) {
				t.Errorf("left behind %d addresses: %06x", n, l)
			}
		}
		if !slices.Equal(slices.Collect(all), want) {
			t.Error("gone through again it tells something else")
		}
	}
}

// P4.3: bytes that are read and written.
func TestReadWrite(t *testing.T) {
	c := plain(api.LayoutHi, 0x20000, 0x2000)
	b := made(t, c)
	wantRead(t, b, 0xc00000, c.Rom[0], true)
	wantRead(t, b, 0x41fffe, c.Rom[0x1fffe], true)
	wantRead(t, b, 0x018001, c.Rom[0x18001], true)
	wantRead(t, b, 0x206000, 0, true)
	wantRead(t, b, 0x200000, 0, false)
	wantRead(t, b, 0x7ec000, 0, false)
	wantWrite(t, b, 0x206001, 0x5a, true)
	wantRead(t, b, 0x206001, 0x5a, true)
	wantRead(t, b, 0xbf6001, 0x5a, true)
	wantRead(t, b, 0x206002, 0, true)
	wantWrite(t, b, 0xa16001, 0xff, true)
	wantRead(t, b, 0x206001, 0xff, true)
	wantWrite(t, b, 0xa16001, 0, true)
	wantRead(t, b, 0x206001, 0, true)
	for _, addr := range []uint32{0xc00000, 0x018000, 0x7d0000} {
		was, _ := b.Read(addr)
		wantWrite(t, b, addr, ^was, true)
		wantRead(t, b, addr, was, true)
	}
	for _, addr := range []uint32{0x000000, 0x005fff, 0x7e0000, 0x7fffff, 0x807fff} {
		wantWrite(t, b, addr, 1, false)
		wantRead(t, b, addr, 0, false)
	}
	if !bytes.Equal(b.Ram(), noughts(0x2000)) {
		t.Error("the memory is no longer noughts")
	}
}

// P4.3: the memory as a whole.
func TestRam(t *testing.T) {
	b := made(t, plain(api.LayoutLo, 0x8000, 0x800))
	wantWrite(t, b, 0x700003, 8, true)
	want := noughts(0x800)
	want[3] = 8
	if !bytes.Equal(b.Ram(), want) {
		t.Error("Ram behind Write")
	}
	for _, n := range []int{0, 1, 0x7ff, 0x801, 0x1000} {
		if e := b.SetRam(noughts(n)); e != api.ErrArg {
			t.Errorf("SetRam of %d bytes: %v", n, e)
		}
	}
	if e := b.SetRam(nil); e != api.ErrArg || !bytes.Equal(b.Ram(), want) {
		t.Error("SetRam(nil):", e)
	}
	want = counted(0x800)
	if e := b.SetRam(want); e != api.OK || !bytes.Equal(b.Ram(), want) {
		t.Error("SetRam:", e)
	}
	wantRead(t, b, 0x7007ff, want[0x7ff], true)
	wantRead(t, b, 0xf00801, want[1], true)
	bare := made(t, plain(api.LayoutLo, 0x8000, 0))
	if len(bare.Ram()) != 0 || bare.SetRam(nil) != api.OK || bare.SetRam([]uint8{}) != api.OK || bare.SetRam([]uint8{1}) != api.ErrArg {
		t.Error("a board without a memory")
	}
}

// R3: what is handed in is not changed and not kept, what is answered is new memory.
func TestNothingShared(t *testing.T) {
	room := bytes.Repeat([]uint8{0x77}, 0x9000)
	b := made(t, api.Cart{Layout: api.LayoutLo, Rom: room[:0x8000], Ram: 0x800})
	room[0] = 1
	wantRead(t, b, 0x008000, 0x77, true)
	wantWrite(t, b, 0x008001, 2, true)
	if room[1] != 0x77 || room[0x8000] != 0x77 {
		t.Error("the rom that was handed in has changed")
	}
	m := bytes.Repeat([]uint8{0x33}, 0x900)[:0x800]
	b.SetRam(m)
	m[0] = 1
	wantRead(t, b, 0x700000, 0x33, true)
	wantWrite(t, b, 0x700001, 2, true)
	if m[1] != 0x33 || m[:0x900][0x800] != 0x33 {
		t.Error("the memory that was handed in has changed")
	}
	l := b.Ram()
	l[2] = 4
	wantRead(t, b, 0x700002, 0x33, true)
	wantWrite(t, b, 0x700003, 5, true)
	if l[3] != 0x33 {
		t.Error("the memory that was answered has changed")
	}
	other := made(t, api.Cart{Layout: api.LayoutLo, Rom: room[:0x8000], Ram: 0x800})
	wantRead(t, other, 0x700003, 0, true)
}

// R4: a board that is none.
func TestNil(t *testing.T) {
	var b *board.Board
	wantHere(t, b, []here{{0x008000, none, 0}, {0x700000, none, 0}, {0xffffffff, none, 0}})
	wantWhere(t, b, api.Spot{})
	wantWhere(t, b, api.Spot{Kind: rom})
	wantWhere(t, b, api.Spot{Kind: ram})
	wantRead(t, b, 0x008000, 0, false)
	wantWrite(t, b, 0x700000, 1, false)
	if len(b.Ram()) != 0 || b.SetRam(nil) != api.ErrNil || b.SetRam(noughts(5)) != api.ErrNil {
		t.Error("a nil board's memory")
	}
}
