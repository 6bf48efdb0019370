package board

import "lanthorn/api"

// addresses is how many there are. At all of a stretch, which begins at a whole number of stretches, bytes of one kind stand, whatever the layout, or nothing does.
const (
	addresses = 1 << 24
	stretch   = 0x2000
)

// apart is an address's bank and place.
func apart(addr uint32) (bank, place int) {
	return int(addr >> 16 & 0xff), int(addr & 0xffff)
}

// row says at which banks and places a kind of bytes stands, and which byte there, as if there were no end of them.
type row struct {
	holds func(bank, place int) bool
	at    func(bank, place int) int
}

// table is what stands where in a layout. Where both rows hold the memory's goes ahead; the banks 7E and 7F belong to neither.
type table struct{ ram, rom row }

// tableOf is a layout's table; false: there is no such layout.
func tableOf(layout uint8) (table, bool) {
	switch layout {
	case api.LayoutLo:
		return lo(), true
	case api.LayoutHi:
		return hi(0), true
	case api.LayoutExHi:
		return hi(0x400000), true
	}
	return table{}, false
}

// lo is the table of halves of banks.
func lo() table {
	return table{
		ram: row{
			holds: func(bank, place int) bool { return bank&0x70 == 0x70 && place < 0x8000 },
			at:    func(bank, place int) int { return (bank&0x0f)*0x8000 + place },
		},
		rom: row{
			holds: func(_, place int) bool { return place >= 0x8000 },
			at:    func(bank, place int) int { return (bank&0x7f)*0x8000 + place - 0x8000 },
		},
	}
}

// hi is the table of whole banks; more is where the rom of the banks below 80 begins.
func hi(more int) table {
	return table{
		ram: row{
			holds: func(bank, place int) bool { return bank&0x60 == 0x20 && place >= 0x6000 && place < 0x8000 },
			at:    func(bank, place int) int { return (bank&0x1f)*0x2000 + place - 0x6000 },
		},
		rom: row{
			holds: func(bank, place int) bool { return bank&0x40 != 0 || place >= 0x8000 },
			at: func(bank, place int) int {
				at := (bank&0x3f)*0x10000 + place
				if bank < 0x80 {
					at += more
				}
				return at
			},
		},
	}
}
