package cart_test

import (
	"bytes"
	"math"
	"reflect"
	"strings"
	"testing"

	"lanthorn/api"
	"lanthorn/cart"
)

// Where the layouts' cards stand.
const (
	loAt   = 0x7fc0
	hiAt   = 0xffc0
	exHiAt = 0x40ffc0
)

func noughts(n int) []uint8 { return make([]uint8, n) }

// good is a cartridge that can be made.
func good() api.Cart {
	return api.Cart{Layout: api.LayoutLo, Rom: noughts(api.MinCart), Title: "A", Reset: 0x8000}
}

// made is what Make answers of a cartridge that can be made.
func made(t *testing.T, c api.Cart) []uint8 {
	t.Helper()
	b, e := cart.Make(c)
	if e != api.OK {
		t.Fatalf("Make(%q, %d bytes): %v", c.Title, len(c.Rom), e)
	}
	return b
}

// read is what Read answers of bytes that are a cartridge.
func read(t *testing.T, b, signal []uint8) api.Cart {
	t.Helper()
	c, e := cart.Read(b, signal)
	if e != api.OK {
		t.Fatalf("Read(%d bytes): %v", len(b), e)
	}
	return c
}

func wantReadError(t *testing.T, b, signal []uint8, want api.Errno) {
	t.Helper()
	if c, e := cart.Read(b, signal); e != want || !reflect.DeepEqual(c, api.Cart{}) {
		t.Errorf("Read(%d bytes): %v, a rom of %d bytes, want %v", len(b), e, len(c.Rom), want)
	}
}

// same holds two cartridges against each other; nil and empty lists are one.
func same(c, d api.Cart) bool {
	equal := bytes.Equal(c.Rom, d.Rom) && bytes.Equal(c.Signal, d.Signal)
	c.Rom, c.Signal, d.Rom, d.Signal = nil, nil, nil, nil
	return equal && reflect.DeepEqual(c, d)
}

func wantPlace(t *testing.T, at, size, want int) {
	t.Helper()
	if x := cart.Place(at, size); x != want {
		t.Errorf("Place(%d, %d): %d, want %d", at, size, x, want)
	}
}

// The chapter's examples, in their order.
func TestExamples(t *testing.T) {
	wantPlace(t, 5, 3, 1)
	wantPlace(t, 3, 3, 2)
	wantPlace(t, 7, 6, 5)
	wantPlace(t, 9, 6, 1)
	wantPlace(t, -1, 6, 0)
	wantReadError(t, noughts(100), nil, api.ErrCartShort)
	wantReadError(t, noughts(api.MaxCart+1024), nil, api.ErrCartGreat)
	if c := read(t, noughts(32768), nil); !same(c, api.Cart{Layout: api.LayoutLo, Rom: noughts(32768), Title: strings.Repeat("\x00", 21)}) {
		t.Errorf("noughts: %d, %d, %d, %q, %x", c.Layout, c.Chip, c.Ram, c.Title, c.Reset)
	}
	b := made(t, good())
	if b[0x7fc0] != 0x41 || b[0x7fc1] != 0x20 || b[0x7fd5] != 0x20 {
		t.Errorf("Make: % x", b[loAt:])
	}
	want := good()
	want.Rom = b
	if c := read(t, b, nil); !same(c, want) {
		t.Error("Read of that:", c.Layout, c.Title, c.Reset)
	}
	low, none := good(), good()
	low.Reset = 0x7fff
	none.Layout = 4
	wantUnmade(t, "Reset 7FFF", low)
	wantUnmade(t, "layout 4", none)
	if n := cart.Score(api.Card{Mode: 0x20, Reset: 0xffff, Sum: 0xffff}, 4); n != 0 {
		t.Error("Score by 4:", n)
	}
}

// P3.1: which cards are there.
func TestLookErrors(t *testing.T) {
	for _, r := range []struct {
		size   int
		layout uint8
		want   api.Errno
	}{
		{1 << 20, 0, api.ErrArg}, {1 << 23, 4, api.ErrArg}, {1 << 23, 255, api.ErrArg}, {0, 0, api.ErrArg},
		{0, 1, api.ErrNone}, {loAt, 1, api.ErrNone}, {loAt + 63, 1, api.ErrNone}, {loAt + 64, 1, api.OK},
		{loAt + 64, 2, api.ErrNone}, {hiAt + 63, 2, api.ErrNone}, {hiAt + 64, 2, api.OK},
		{hiAt + 64, 3, api.ErrNone}, {exHiAt + 63, 3, api.ErrNone}, {exHiAt + 64, 3, api.OK},
		{api.MaxCart + 5, 3, api.OK},
	} {
		rom := bytes.Repeat([]uint8{0x41}, r.size)
		c, e := cart.Look(rom, r.layout)
		if e != r.want || (e != api.OK) != (c == api.Card{}) {
			t.Errorf("Look(%x bytes, %d): %v, %v, want %v", r.size, r.layout, c, e, r.want)
		}
	}
	if c, e := cart.Look(nil, 1); e != api.ErrNone || c != (api.Card{}) {
		t.Error("Look(nil):", c, e)
	}
}

// P3.1: which byte says what. All bytes of the card are unlike.
func TestLook(t *testing.T) {
	for layout, at := range map[uint8]int{1: loAt, 2: hiAt, 3: exHiAt} {
		rom := noughts(at + 70)
		for i := range 64 {
			rom[at+i] = uint8(0x60 + i)
		}
		c, e := cart.Look(rom, layout)
		want := api.Card{Title: "`abcdefghijklmnopqrst", Mode: 0x75, Kind: 0x76, RamSize: 0x78, Check: 0x7d7c, Sum: 0x7f7e, Reset: 0x9d9c}
		if e != api.OK || c != want {
			t.Errorf("Look of layout %d: %+v, %v", layout, c, e)
		}
	}
}

// P3.1: blanks at the title's end, and they alone, are no part of it.
func TestTitle(t *testing.T) {
	for _, r := range []struct{ bytes, want string }{
		{strings.Repeat(" ", 21), ""},
		{"A" + strings.Repeat(" ", 20), "A"},
		{"  A  B" + strings.Repeat(" ", 15), "  A  B"},
		{"A" + strings.Repeat(" ", 19) + "B", "A" + strings.Repeat(" ", 19) + "B"},
		{strings.Repeat(" ", 20) + "\x00", strings.Repeat(" ", 20) + "\x00"},
		{strings.Repeat(" ", 20) + "\t", strings.Repeat(" ", 20) + "\t"},
		{strings.Repeat("\xff", 21), strings.Repeat("\xff", 21)},
		{strings.Repeat("x", 19) + "\xc2\xa0", strings.Repeat("x", 19) + "\xc2\xa0"},
	} {
		rom := noughts(api.MinCart)
		copy(rom[loAt:], r.bytes)
		rom[loAt+21] = ' ' // the mode is no part of it
		if c, _ := cart.Look(rom, api.LayoutLo); c.Title != r.want {
			t.Errorf("the title of %q: %q", r.bytes, c.Title)
		}
	}
}

// P3.1: what a card's score is the sum of.
func TestScore(t *testing.T) {
	const bad = "\x00"
	for _, r := range []struct {
		c       api.Card
		lo      int
		hi      int
		exHi    int
		without string
	}{
		{api.Card{Title: bad}, -4, -4, -4, "all"},
		{api.Card{Title: bad, Reset: 0x7fff}, -4, -4, -4, "a place to begin"},
		{api.Card{Title: bad, Reset: 0x8000}, 2, 2, 2, "all but that"},
		{api.Card{Title: bad, Reset: 0xffff}, 2, 2, 2, "all but that"},
		{api.Card{Title: bad, Check: 0xffff}, 0, 0, 0, "all but the sum"},
		{api.Card{Title: bad, Sum: 0xffff}, 0, 0, 0, "all but the sum"},
		{api.Card{Title: bad, Check: 0x1234, Sum: 0xedcb}, 0, 0, 0, "all but the sum"},
		{api.Card{Title: bad, Check: 0x1234, Sum: 0xedcc}, -4, -4, -4, "all: the sum is 10000"},
		{api.Card{Title: bad, Check: 0xffff, Sum: 0xffff}, -4, -4, -4, "all: the sum is 1FFFE"},
		{api.Card{Title: bad, Mode: 0x20}, -2, -4, -4, "all but the mode"},
		{api.Card{Title: bad, Mode: 0x30}, -2, -4, -4, "all but the mode"},
		{api.Card{Title: bad, Mode: 0x23}, -2, -4, -4, "all but the mode"},
		{api.Card{Title: bad, Mode: 0x33}, -2, -4, -4, "all but the mode"},
		{api.Card{Title: bad, Mode: 0x21}, -4, -2, -4, "all but the mode"},
		{api.Card{Title: bad, Mode: 0x31}, -4, -2, -4, "all but the mode"},
		{api.Card{Title: bad, Mode: 0x25}, -4, -4, -2, "all but the mode"},
		{api.Card{Title: bad, Mode: 0x35}, -4, -4, -2, "all but the mode"},
		{api.Card{Title: bad, Mode: 0x22}, -4, -4, -4, "all: no mode"},
		{api.Card{Title: bad, Mode: 0x24}, -4, -4, -4, "all: no mode"},
		{api.Card{Title: bad, Mode: 0x60}, -4, -4, -4, "all: no mode"},
		{api.Card{Title: bad, Mode: 0x28}, -4, -4, -4, "all: no mode"},
		{api.Card{}, -3, -3, -3, "all but the title"},
		{api.Card{Title: " ~"}, -3, -3, -3, "all but the title"},
		{api.Card{Title: "a\x1f"}, -4, -4, -4, "all: no title"},
		{api.Card{Title: "\x7fa"}, -4, -4, -4, "all: no title"},
		{api.Card{Title: "a\x80b"}, -4, -4, -4, "all: no title"},
		{api.Card{Title: "\xc3\xa9"}, -4, -4, -4, "all: no title"},
		{api.Card{Title: "a\xff"}, -4, -4, -4, "all: no title"},
		{api.Card{Title: strings.Repeat("long", 99)}, -3, -3, -3, "all but the title"},
		{api.Card{Title: "A", Mode: 0x20, Check: 0xffff, Reset: 0x8000, Kind: 0xff, RamSize: 0xff}, 9, 7, 7, "none"},
	} {
		for layout, want := range []int{0, r.lo, r.hi, r.exHi, 0, 0} {
			if n := cart.Score(r.c, uint8(layout)); n != want {
				t.Errorf("the score, without %s, of %+v by %d: %d, want %d", r.without, r.c, layout, n, want)
			}
		}
		if n := cart.Score(r.c, 255); n != 0 {
			t.Errorf("the score by 255: %d", n)
		}
	}
}

// P3.2: how many bytes a rom may have, and which bytes are no part of it.
func TestReadSizes(t *testing.T) {
	for _, r := range []struct {
		size, rom int
		want      api.Errno
	}{
		{0, 0, api.ErrCartShort},
		{512, 0, api.ErrCartShort},
		{api.MinCart - 1, 0, api.ErrCartShort},
		{api.MinCart - 512, 0, api.ErrCartShort},
		{api.MinCart, api.MinCart, api.OK},
		{api.MinCart + 1, api.MinCart + 1, api.OK},
		{api.MinCart + 511, api.MinCart + 511, api.OK},
		{api.MinCart + 512, api.MinCart, api.OK},
		{api.MinCart + 513, api.MinCart + 513, api.OK},
		{api.MinCart + 1023, api.MinCart + 1023, api.OK},
		{api.MinCart + 1024, api.MinCart + 1024, api.OK},
		{api.MinCart + 1536, api.MinCart + 1024, api.OK},
		{api.MaxCart, api.MaxCart, api.OK},
		{api.MaxCart + 1, 0, api.ErrCartGreat},
		{api.MaxCart + 511, 0, api.ErrCartGreat},
		{api.MaxCart + 512, api.MaxCart, api.OK},
		{api.MaxCart + 513, 0, api.ErrCartGreat},
		{api.MaxCart + 1024, 0, api.ErrCartGreat},
		{api.MaxCart + 1536, 0, api.ErrCartGreat},
	} {
		b := noughts(r.size)
		for i := range min(1000, len(b)) {
			b[i] = uint8(i / 8)
		}
		if r.want != api.OK {
			wantReadError(t, b, nil, r.want)
			continue
		}
		if c := read(t, b, nil); !bytes.Equal(c.Rom, b[r.size-r.rom:]) {
			t.Errorf("Read of %d bytes: a rom of %d, that begins % x", r.size, len(c.Rom), c.Rom[:2])
		}
	}
	wantReadError(t, nil, nil, api.ErrCartShort)
}

// scored is a rom with cards of which the scores by their own layouts are these: 9 less what is asked for.
func scored(size int, lo, hi, exHi int) []uint8 {
	rom := noughts(size)
	for i, p := range []struct {
		at   int
		mode uint8
		want int
	}{{loAt, 0x20, lo}, {hiAt, 0x21, hi}, {exHiAt, 0x25, exHi}} {
		if size < p.at+64 {
			break
		}
		card := rom[p.at : p.at+64]
		copy(card, "layout "+string(rune('1'+i))+"             ")
		card[21] = p.mode
		card[28], card[29], card[61] = 0xff, 0xff, 0x80
		for want := p.want; want < 9; {
			switch {
			case card[61] != 0 && want <= 3:
				card[61] = 0
				want += 6
			case card[28] != 0 && want <= 5:
				card[28] = 0
				want += 4
			case card[21] != 0 && want <= 7:
				card[21] = 0
				want += 2
			case card[0] != 0:
				card[0] = 0
				want++
			}
		}
	}
	return rom
}

// P3.2: the layout whose card has the greatest score, the first one of several.
func TestReadLayouts(t *testing.T) {
	const all = exHiAt + 64
	for _, r := range []struct {
		size         int
		lo, hi, exHi int
		want         uint8
	}{
		{all, 9, 9, 9, 1}, {all, 8, 9, 9, 2}, {all, 8, 8, 9, 3}, {all, 9, 8, 9, 1}, {all, 8, 9, 8, 2},
		{all, -4, -4, -4, 1}, {all, -4, -3, -3, 2}, {all, -4, -4, -3, 3}, {all, -3, -4, -3, 1},
		{all, 2, 3, 5, 3}, {all, 5, 3, 2, 1}, {all, 3, 5, 2, 2}, {all, -3, 0, -1, 2}, {all, 7, 8, 9, 3},
		{all - 1, 2, 3, 9, 2}, {all - 1, 3, 3, 9, 1},
		{hiAt + 64, -2, -1, 9, 2}, {hiAt + 63, -4, 9, 9, 1}, {loAt + 64, -4, 9, 9, 1},
	} {
		rom := scored(r.size, r.lo, r.hi, r.exHi)
		for layout, want := range map[uint8]int{1: r.lo, 2: r.hi, 3: r.exHi} {
			if card, e := cart.Look(rom, layout); e == api.OK && cart.Score(card, layout) != want {
				t.Fatalf("the card %+v does not score %d", card, want)
			}
		}
		c := read(t, rom, nil)
		if c.Layout != r.want || c.Title[1:] != "ayout "+string(rune('0'+r.want)) {
			t.Errorf("%x bytes, the scores %d, %d, %d: layout %d (%q), want %d", r.size, r.lo, r.hi, r.exHi, c.Layout, c.Title, r.want)
		}
	}
}

// P3.2: chips, memories, the signal chip's bytes, and which error comes first.
func TestReadChips(t *testing.T) {
	full := bytes.Repeat([]uint8{7}, api.SignalSize)
	long := append(bytes.Clone(full), 8)
	for kind := range 256 {
		for _, size := range []int{0, 1, 9, 10, 255} {
			for _, signal := range [][]uint8{nil, full[1:], full, long} {
				rom := noughts(api.MinCart)
				rom[loAt+22], rom[loAt+24] = uint8(kind), uint8(size)
				want := api.OK
				chip := map[int]int{0: 1, 3: 2}[kind/16]
				ram := 1024 << size
				if size == 0 {
					ram = 0
				}
				if kind%16 < 3 {
					chip = 0
				} else if chip == 0 {
					want = api.ErrChip
				}
				if want == api.OK && size > 9 {
					want = api.ErrRam
				}
				if want == api.OK && chip == 1 && len(signal) != 8192 {
					want = api.ErrSignal
				}
				if want != api.OK {
					wantReadError(t, rom, signal, want)
					continue
				}
				c := read(t, rom, signal)
				if chip != api.ChipSignal {
					signal = nil
				}
				if int(c.Chip) != chip || c.Ram != ram || !bytes.Equal(c.Signal, signal) {
					t.Errorf("kind %x, size %d: chip %d, %d bytes of memory, %d of the signal chip's", kind, size, c.Chip, c.Ram, len(c.Signal))
				}
			}
		}
	}
}

// P3.2: the sizes of memories.
func TestReadMemories(t *testing.T) {
	for size := range 256 {
		rom := noughts(api.MinCart)
		rom[loAt+24] = uint8(size)
		if size > 9 {
			wantReadError(t, rom, nil, api.ErrRam)
			continue
		}
		want := []int{0, 2048, 4096, 8192, 16384, 32768, 65536, 131072, 262144, 524288}[size]
		if c := read(t, rom, nil); c.Ram != want {
			t.Errorf("the size %d: %d, want %d", size, c.Ram, want)
		}
	}
}

// P3.2: Fast is the mode's bit 4, whatever its others say; Reset is the card's.
func TestReadFast(t *testing.T) {
	for mode := range 256 {
		rom := noughts(api.MinCart)
		rom[loAt+21], rom[loAt+60], rom[loAt+61] = uint8(mode), 0x34, 0x12
		if c := read(t, rom, nil); c.Fast != (mode/16%2 == 1) || c.Reset != 0x1234 {
			t.Errorf("mode %x: %v, Reset %x", mode, c.Fast, c.Reset)
		}
	}
}

func wantUnmade(t *testing.T, why string, c api.Cart) {
	t.Helper()
	if b, e := cart.Make(c); e != api.ErrArg || len(b) != 0 {
		t.Errorf("Make, %s: %d bytes, %v", why, len(b), e)
	}
}

// P3.3: what may not be made, and what may be just so.
func TestMakeErrors(t *testing.T) {
	with := func(change func(c *api.Cart)) api.Cart {
		c := good()
		change(&c)
		return c
	}
	sized := func(layout uint8, n int) api.Cart {
		return with(func(c *api.Cart) { c.Layout, c.Rom = layout, noughts(n) })
	}
	titled := func(s string) api.Cart { return with(func(c *api.Cart) { c.Title = s }) }
	remembering := func(n int) api.Cart { return with(func(c *api.Cart) { c.Ram = n }) }
	for why, c := range map[string]api.Cart{
		"nothing":                     {},
		"layout 0":                    with(func(c *api.Cart) { c.Layout = 0 }),
		"layout 255":                  with(func(c *api.Cart) { c.Layout = 255 }),
		"chip 3":                      with(func(c *api.Cart) { c.Chip = 3 }),
		"chip 255":                    with(func(c *api.Cart) { c.Chip = 255 }),
		"memory -1":                   remembering(-1),
		"memory 1":                    remembering(1),
		"memory 1024":                 remembering(1024),
		"memory 2047":                 remembering(2047),
		"memory 6144":                 remembering(6144),
		"memory 1 MiB":                remembering(1 << 20),
		"memory -2048":                remembering(-2048),
		"least memory":                remembering(math.MinInt),
		"no rom":                      sized(1, 0),
		"rom too short":               sized(1, api.MinCart-1024),
		"rom of one byte":             sized(1, 1),
		"rom not whole":               sized(1, api.MinCart+1),
		"rom with a head":             sized(1, api.MinCart+512),
		"rom too great":               sized(1, api.MaxCart+1024),
		"no card of Hi":               sized(2, 0x10000-1024),
		"no card of ExHi":             sized(3, 0x410000-1024),
		"no card of ExHi yet":         sized(3, 0x400000),
		"title of 22":                 titled(strings.Repeat("A", 22)),
		"title with a nought":         titled("\x00"),
		"title with 1F":               titled("A\x1f"),
		"title with 7F":               titled("\x7fA"),
		"title with FF":               titled("A\xffA"),
		"title with two bytes a sign": titled("\xc3\xa9"),
		"title of a blank":            titled(" "),
		"title with a blank":          titled("AB "),
		"Reset 0":                     with(func(c *api.Cart) { c.Reset = 0 }),
		"Reset 7FFF":                  with(func(c *api.Cart) { c.Reset = 0x7fff }),
	} {
		wantUnmade(t, why, c)
	}
	for why, c := range map[string]api.Cart{
		"good":                      good(),
		"no title":                  titled(""),
		"title of 21":               titled(strings.Repeat("~", 21)),
		"title inside":              titled("  A  B"),
		"memory 2048":               remembering(2048),
		"memory 512 K":              remembering(524288),
		"Hi just there":             sized(2, 0x10000),
		"ExHi too":                  sized(3, 0x410000),
		"greatest":                  sized(3, api.MaxCart),
		"odd size":                  sized(1, api.MinCart+3*1024),
		"Reset FFFF":                with(func(c *api.Cart) { c.Reset = 0xffff }),
		"signal chip without bytes": with(func(c *api.Cart) { c.Chip = 1 }),
		"bytes without chip":        with(func(c *api.Cart) { c.Signal = noughts(3) }),
	} {
		if b, e := cart.Make(c); e != api.OK || len(b) != len(c.Rom) {
			t.Errorf("Make, %s: %d bytes, %v", why, len(b), e)
		}
	}
}

// P3.3: the card, byte by byte.
func TestMakeCard(t *testing.T) {
	for _, r := range []struct {
		layout, chip uint8
		ram          int
		fast         bool
		at           int
		mode, kind   uint8
		size         uint8
	}{
		{1, 0, 0, false, loAt, 0x20, 0x00, 0}, {1, 0, 0, true, loAt, 0x30, 0x00, 0},
		{2, 1, 2048, false, hiAt, 0x21, 0x03, 1}, {2, 1, 65536, true, hiAt, 0x31, 0x03, 6},
		{3, 2, 524288, false, exHiAt, 0x25, 0x33, 9}, {3, 2, 8192, true, exHiAt, 0x35, 0x33, 3},
	} {
		rom := bytes.Repeat([]uint8{0xa5}, 0x410000)
		c := api.Cart{Layout: r.layout, Chip: r.chip, Rom: rom, Ram: r.ram, Title: "A b~", Reset: 0xc0de, Fast: r.fast}
		want := bytes.Clone(rom)
		card := want[r.at:]
		copy(card, "A b~                 ")
		copy(card[21:], []uint8{r.mode, r.kind, 0, r.size, 0, 0, 0, 0, 0, 0, 0})
		card[60], card[61] = 0xde, 0xc0
		sum := 0
		for _, x := range want {
			sum += int(x)
		}
		sum %= 65536
		card[28], card[29] = uint8((0xffff-sum)%256), uint8((0xffff-sum)/256)
		card[30], card[31] = uint8(sum%256), uint8(sum/256)
		if b := made(t, c); !bytes.Equal(b, want) {
			t.Errorf("Make of layout %d, fast %v: % x, want % x", r.layout, r.fast, b[r.at:r.at+64], card[:64])
		}
	}
}

// R3: what is handed in is not changed and not kept, what is answered is new memory.
func TestNothingShared(t *testing.T) {
	room := bytes.Repeat([]uint8{0x77}, api.MinCart+1024)
	c := good()
	c.Rom = room[:api.MinCart]
	b := made(t, c)
	if !bytes.Equal(room, bytes.Repeat([]uint8{0x77}, api.MinCart+1024)) {
		t.Error("Make has changed the rom, or the room behind it")
	}
	b[0] = 0
	if room[0] != 0x77 {
		t.Error("what Make answers is the rom's memory")
	}
	b = made(t, api.Cart{Layout: 1, Chip: 1, Rom: noughts(api.MinCart), Title: "A", Reset: 0x8000})
	b = append(noughts(512), b...)
	signal := noughts(api.SignalSize)
	d := read(t, b, signal)
	b[600], signal[0] = 1, 1
	if d.Rom[88] != 0 || d.Signal[0] != 0 {
		t.Error("Read has kept what it was handed")
	}
	d.Rom[89], d.Signal[1] = 2, 2
	if b[601] != 0 || signal[1] != 0 {
		t.Error("what Read answers is what it was handed")
	}
}

// P3.4: places beyond sizes of all kinds.
func TestPlace(t *testing.T) {
	for _, r := range [][3]int{
		{0, 1, 0}, {1, 1, 0}, {99, 1, 0}, {0, 0, 0}, {5, 0, 0}, {5, -1, 0}, {-1, -1, 0}, {-5, 3, 0},
		{4, 8, 4}, {8, 8, 0}, {15, 8, 7}, {1000, 8, 0},
		{6, 7, 6}, {7, 7, 6}, {14, 7, 6}, {15, 7, 6}, {8, 7, 0},
		{0x3fffff, 0x300000, 0x2fffff}, {0x300000, 0x300000, 0x200000}, {0x3c0000, 0x280000, 0x240000},
		{math.MaxInt, 1, 0}, {math.MaxInt, 3, 2}, {math.MaxInt - 1, 3, 2}, {math.MaxInt - 2, 3, 1}, {math.MaxInt - 3, 3, 0},
		{math.MaxInt, math.MaxInt, math.MaxInt - 1}, {math.MaxInt - 1, math.MaxInt, math.MaxInt - 1},
		{math.MaxInt, 1 << 62, 1<<62 - 1}, {math.MaxInt, 1<<62 + 1, 1 << 62}, {1 << 62, 1 << 62, 0},
		{math.MinInt, math.MaxInt, 0}, {math.MaxInt, math.MinInt, 0},
	} {
		wantPlace(t, r[0], r[1], r[2])
	}
}
