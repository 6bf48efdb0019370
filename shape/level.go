package shape

import "lanthorn/api"

// How a level may change. The first four stand in the order of the bits 5 and 6 of Gain.
const (
	sink = iota
	shrink
	rise
	bend
	fade
	leap
	hold
	changeCount
)

// bendAt is from which level on a bent rise is slower.
const bendAt = 1536

// changes are what becomes of a level, by how it changes; the last one needs the byte Gain.
func changes(gain uint8) [changeCount]func(level int) int {
	return [...]func(int) int{
		sink:   func(level int) int { return level - 32 },
		shrink: func(level int) int { return level - (level-1)>>8 - 1 }, // a shift, as (0 less 1) by 256 is to be rounded down
		rise:   func(level int) int { return level + 32 },
		bend: func(level int) int {
			if level < bendAt {
				return level + 32
			}
			return level + 8
		},
		fade: func(level int) int { return level - 8 },
		leap: func(level int) int { return level + 1024 },
		hold: func(int) int { return 16 * int(gain) },
	}
}

// clamp is the nearest level to a number.
func clamp(level int) int { return max(0, min(level, api.MaxLevel)) }
