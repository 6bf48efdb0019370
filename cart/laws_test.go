package cart_test

import (
	"bytes"
	"math/rand"
	"strings"
	"testing"

	"lanthorn/api"
	"lanthorn/cart"
)

// P3.5: of what Make answers the card scores 9, and Read of it is the cartridge itself again, with 512 bytes ahead of it, too. At other places no card scores as much: there noughts stand.
func TestMadeIsRead(t *testing.T) {
	r := rand.New(rand.NewSource(5))
	head := bytes.Repeat([]uint8{0xee}, 512)
	signal := make([]uint8, api.SignalSize)
	r.Read(signal)
	for _, layout := range []uint8{api.LayoutLo, api.LayoutHi, api.LayoutExHi} {
		for chip := range uint8(3) {
			for size := range 10 {
				least := []int{0, 0x8000, 0x10000, 0x410000}[layout]
				c := api.Cart{Layout: layout, Chip: chip, Rom: noughts(least + 1024*r.Intn(9)), Title: strings.Repeat("x ", size) + "y", Reset: uint16(0x8000 + r.Intn(0x8000)), Fast: r.Intn(2) == 0}
				r.Read(c.Rom[:loAt])
				r.Read(c.Rom[least-32 : least-4]) // the card's own bytes
				if size > 0 {
					c.Ram = 1024 << size
				}
				if chip == api.ChipSignal {
					c.Signal = signal
				}
				wantReadAgain(t, c, head, signal)
			}
		}
	}
}

func wantReadAgain(t *testing.T, c api.Cart, head, signal []uint8) {
	t.Helper()
	b := made(t, c)
	if card, e := cart.Look(b, c.Layout); e != api.OK || cart.Score(card, c.Layout) != 9 {
		t.Errorf("the card %+v scores %d by layout %d", card, cart.Score(card, c.Layout), c.Layout)
	}
	c.Rom = b
	if d := read(t, b, signal); !same(c, d) {
		t.Errorf("made and read: layout %d, chip %d, %d, %q, %x, %v", d.Layout, d.Chip, d.Ram, d.Title, d.Reset, d.Fast)
	}
	if d := read(t, append(bytes.Clone(head), b...), signal); !same(c, d) {
		t.Errorf("made and read with bytes ahead: layout %d, chip %d, %d, %q, %x, %v", d.Layout, d.Chip, d.Ram, d.Title, d.Reset, d.Fast)
	}
}

// P3.5: a card at an earlier place that scores as much goes ahead.
func TestMadeIsReadAsAnother(t *testing.T) {
	c := good()
	c.Layout, c.Title, c.Rom = api.LayoutHi, "Hi", noughts(0x10000)
	copy(c.Rom, made(t, good()))
	if d := read(t, made(t, c), nil); d.Layout != api.LayoutLo || d.Title != "A" {
		t.Error("read:", d.Layout, d.Title)
	}
	c.Rom[loAt] = 0 // now it is worth less
	if d := read(t, made(t, c), nil); d.Layout != api.LayoutHi || d.Title != "Hi" {
		t.Error("read:", d.Layout, d.Title)
	}
}

// P3.5: made again of what was made it is the same.
func TestMadeAgain(t *testing.T) {
	c := good()
	c.Rom = bytes.Repeat([]uint8{0x5a, 0x81}, api.MinCart/2)
	b := made(t, c)
	if !bytes.Equal(made(t, read(t, b, nil)), b) {
		t.Error("Make of what was read is something else")
	}
}

// P3.6: below the size; to itself below it; the same a whole number of w apart.
func TestPlaceLaws(t *testing.T) {
	r := rand.New(rand.NewSource(6))
	for range 100000 {
		s := 1 + r.Intn(1<<(1+r.Intn(24)))
		w := 1
		for w < s {
			w *= 2
		}
		at := r.Intn(4 * w)
		x := cart.Place(at, s)
		if x < 0 || x >= s || at < s && x != at || cart.Place(at+w*r.Intn(1000), s) != x || cart.Place(x, s) != x {
			t.Fatalf("Place(%d, %d): %d", at, s, x)
		}
	}
}
