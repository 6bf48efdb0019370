package cart_test

import (
	"math/rand"
	"testing"

	"lanthorn/api"
	"lanthorn/cart"
)

// naivePlace is the chapter's sentence once more.
func naivePlace(at, s int) int {
	if at < s {
		return at
	}
	w := 1
	for w < s {
		w *= 2
	}
	a := at % w
	if a < s {
		return a
	}
	p := 1
	for p*2 <= s {
		p *= 2
	}
	return p + naivePlace(a-p, s-p)
}

// P3.4: all small places in all small sizes, and great ones here and there.
func TestPlaceNaive(t *testing.T) {
	for s := 1; s < 200; s++ {
		for at := range 1000 {
			wantPlace(t, at, s, naivePlace(at, s))
		}
	}
	r := rand.New(rand.NewSource(3))
	for range 100000 {
		s, at := 1+r.Intn(1<<23), r.Intn(1<<25)
		wantPlace(t, at, s, naivePlace(at, s))
	}
}

// naiveScore is the score of a card's bytes, told without its fields.
func naiveScore(card []uint8, modes ...int) int {
	n := 0
	if int(card[28])+256*int(card[29])+int(card[30])+256*int(card[31]) == 65535 {
		n += 4
	}
	for _, m := range modes {
		if int(card[21]) == m || int(card[21]) == m+16 {
			n += 2
		}
	}
	all := 1
	for _, x := range card[:21] {
		if x < ' ' || x > '~' {
			all = 0
		}
	}
	n += all
	if card[61] >= 0x80 {
		return n + 2
	}
	return n - 4
}

// naiveLayout is the layout of a rom that has at least MinCart bytes.
func naiveLayout(rom []uint8) uint8 {
	layout, top := uint8(1), naiveScore(rom[loAt:], 0x20, 0x23)
	if len(rom) >= hiAt+64 {
		if n := naiveScore(rom[hiAt:], 0x21); n > top {
			layout, top = 2, n
		}
	}
	if len(rom) >= exHiAt+64 && naiveScore(rom[exHiAt:], 0x25) > top {
		layout = 3
	}
	return layout
}

// throwCard lays a card of which each part is right by a throw.
func throwCard(r *rand.Rand, card []uint8) {
	r.Read(card[:64])
	if r.Intn(2) == 0 {
		copy(card, "A title              ")
	}
	if r.Intn(2) == 0 {
		card[21] = []uint8{0x20, 0x21, 0x23, 0x25, 0x30, 0x31, 0x33, 0x35}[r.Intn(8)]
	}
	card[22] = []uint8{0, 3, 0x33, 0x32, 5, 0x13}[r.Intn(6)]
	card[24] = uint8(r.Intn(12))
	if r.Intn(2) == 0 {
		card[28], card[29] = ^card[30], ^card[31]
	}
}

// P3.2, P3.5: Read of thrown cards. Whatever it answers, it is one of the listed errors or a cartridge of the listed sizes, whose layout is that of the best card.
func TestReadNaive(t *testing.T) {
	r := rand.New(rand.NewSource(4))
	rom := noughts(0x410000)
	signal := noughts(api.SignalSize)
	count := map[api.Errno]int{}
	layouts := map[uint8]int{}
	for range 2000 {
		for _, at := range []int{loAt, hiAt, exHiAt} {
			throwCard(r, rom[at:])
		}
		size := []int{0x8000, 0x10000, 0x10000 - 1, 0x410000, 0x410000 - 1}[r.Intn(5)]
		c, e := cart.Read(rom[:size], signal)
		count[e]++
		if e != api.OK {
			continue
		}
		layouts[c.Layout]++
		if want := naiveLayout(rom[:size]); c.Layout != want {
			t.Fatalf("layout %d, want %d", c.Layout, want)
		}
		card, _ := cart.Look(rom, c.Layout)
		ram := map[int]int{0: 0, 1024 << card.RamSize: 1}
		if _, is := ram[c.Ram]; !is || c.Chip > 2 || len(c.Rom) != size || c.Title != card.Title || c.Reset != card.Reset || c.Fast != (card.Mode/16%2 == 1) {
			t.Fatalf("Read: layout %d, chip %d, %d bytes, %q, %x, of the card %+v", c.Layout, c.Chip, c.Ram, c.Title, c.Reset, card)
		}
	}
	if len(count) != 3 || count[api.OK] == 0 || count[api.ErrChip] == 0 || count[api.ErrRam] == 0 || len(layouts) != 3 {
		t.Error("what was answered:", count, layouts)
	}
}
