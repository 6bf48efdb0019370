package cart

import (
	"strings"

	"lanthorn/api"
)

// Which byte of a card, behind the title, says what. Words have two bytes.
const (
	cardMode = api.TitleSize + iota
	cardKind
	_
	cardRamSize
	_
	_
	_
	cardCheck
	_
	cardSum
	_
	cardOwn // the rom's own bytes, as far as Reset
)

const cardReset = 60

// word is a word at a place, putWord lays one there.
func word(b []uint8, at int) uint16 { return uint16(b[at]) | uint16(b[at+1])<<8 }

func putWord(b []uint8, at int, x uint16) { b[at], b[at+1] = uint8(x), uint8(x>>8) }

// cardOf is what the bytes of a card say.
func cardOf(b []uint8) api.Card {
	return api.Card{
		Title:   strings.TrimRight(string(b[:api.TitleSize]), " "),
		Mode:    b[cardMode],
		Kind:    b[cardKind],
		RamSize: b[cardRamSize],
		Check:   word(b, cardCheck),
		Sum:     word(b, cardSum),
		Reset:   word(b, cardReset),
	}
}

// plain tells whether all of a title can be printed.
func plain(title string) bool {
	for i := range len(title) {
		if title[i] < 0x20 || title[i] > 0x7e {
			return false
		}
	}
	return true
}

// chipOf is the chip that a kind says; false: none that is known.
func chipOf(kind uint8) (uint8, bool) {
	switch {
	case kind&15 < 3:
		return api.ChipNone, true
	case kind>>4 == 0:
		return api.ChipSignal, true
	case kind>>4 == 3:
		return api.ChipSecond, true
	}
	return 0, false
}

// kindOf is the kind that says a chip; false: there is no such chip.
func kindOf(chip uint8) (uint8, bool) {
	switch chip {
	case api.ChipNone:
		return 0x00, true
	case api.ChipSignal:
		return 0x03, true
	case api.ChipSecond:
		return 0x33, true
	}
	return 0, false
}

const maxRamSize = 9

// ramOf is how many bytes of memory a card's size says; false: too many.
func ramOf(size uint8) (int, bool) {
	if size == 0 {
		return 0, true
	}
	if size > maxRamSize {
		return 0, false
	}
	return 1024 << size, true
}

// ramSizeOf is the size that says so many bytes; false: none does.
func ramSizeOf(ram int) (uint8, bool) {
	for size := range uint8(maxRamSize + 1) {
		if n, _ := ramOf(size); n == ram {
			return size, true
		}
	}
	return 0, false
}
