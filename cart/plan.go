package cart

import (
	"math"
	"slices"

	"lanthorn/api"
)

// fast is the bit of a mode that says how fast the rom is.
const fast = 0x10

// plan is what a layout asks of a cartridge: where the card stands, and which mode it says. The first mode is the one that is written.
type plan struct {
	layout uint8
	at     int
	modes  []uint8
}

// plans are all layouts; their places rise.
func plans() [3]plan {
	return [3]plan{
		{api.LayoutLo, 0x7fc0, []uint8{0x20, 0x23}},
		{api.LayoutHi, 0xffc0, []uint8{0x21}},
		{api.LayoutExHi, 0x40ffc0, []uint8{0x25}},
	}
}

// planOf is a layout's plan; false: there is no such layout.
func planOf(layout uint8) (plan, bool) {
	for _, p := range plans() {
		if p.layout == layout {
			return p, true
		}
	}
	return plan{}, false
}

// within tells whether a rom of a size has room for the card.
func (p plan) within(size int) bool { return size >= p.at+api.CardSize }

// score is how well a card fits the layout.
func (p plan) score(c api.Card) int {
	n := -4
	if c.Reset >= 0x8000 {
		n = 2
	}
	if c.Check+c.Sum == 0xffff {
		n += 4
	}
	if slices.Contains(p.modes, c.Mode&^fast) {
		n += 2
	}
	if plain(c.Title) {
		n++
	}
	return n
}

// best is the layout whose card in a rom fits best, and that card.
func best(rom []uint8) (layout uint8, card api.Card) {
	top := math.MinInt
places:
	for _, p := range plans() {
		c, e := Look(rom, p.layout)
		n := p.score(c)
		switch {
		case e != api.OK:
			break places // those behind it have no room either
		case n > top:
			layout, card, top = p.layout, c, n
		}
	}
	return layout, card
}
