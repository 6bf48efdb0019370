package cart

import (
	"strings"

	"lanthorn/api"
)

// unmakable tells whether there are no bytes of a cartridge.
func unmakable(c api.Cart) bool {
	p, known := planOf(c.Layout)
	parts := func() bool {
		_, chip := kindOf(c.Chip)
		_, ram := ramSizeOf(c.Ram)
		return chip && ram
	}
	rom := func() bool {
		n := len(c.Rom)
		return n >= api.MinCart && n <= api.MaxCart && n%1024 == 0 && p.within(n)
	}
	title := func() bool {
		return len(c.Title) <= api.TitleSize && plain(c.Title) && !strings.HasSuffix(c.Title, " ")
	}
	switch {
	case !known:
	case !parts():
	case !rom():
	case !title():
	case c.Reset < 0x8000:
	default:
		return false
	}
	return true
}

// lay lays all of a card but check and sum. What may not be laid has been refused.
func lay(card []uint8, c api.Cart, p plan) {
	clear(card[:cardOwn])
	copy(card, c.Title+strings.Repeat(" ", api.TitleSize-len(c.Title)))
	card[cardMode] = p.modes[0]
	if c.Fast {
		card[cardMode] |= fast
	}
	card[cardKind], _ = kindOf(c.Chip)
	card[cardRamSize], _ = ramSizeOf(c.Ram)
	putWord(card, cardReset, c.Reset)
}

// seal lays check and sum into a rom's card. Their own four bytes, which the sum leaves out, are 0 till then.
func seal(rom, card []uint8) {
	var sum uint16
	for _, b := range rom {
		sum += uint16(b)
	}
	putWord(card, cardSum, sum)
	putWord(card, cardCheck, ^sum)
}
