package tick

// kind is what a register is.
type kind uint8

const (
	nothing kind = iota
	control      // of the timers, the ports and the start-up program
	port
	keeper // of a byte
	target // of a timer
	tally  // of a timer
)

// The first register of each kind.
const (
	controlAt = 1
	portAt    = 4
	keeperAt  = 8
	targetAt  = 10
	tallyAt   = 13
)

// The bits of what is written to the register 1, beside those of the timers.
const (
	clearLow  = 0x10 // what came in at the ports 0 and 1 is 0
	clearHigh = 0x20 // likewise at the ports 2 and 3
	bootShown = 0x80
)

// controlStays are the bits of it that say what is from then on.
const controlStays = bootShown | (1<<timerCount - 1)

// timerOn is the bit that says that a timer is on.
func timerOn(k int) uint8 { return 1 << k }

// tell tells what a register is, and which one of its kind: it goes on to the one below it, till that is the first one.
func tell(reg uint8) (is kind, k int) {
	switch reg {
	case controlAt:
		is = control
	case portAt + 3:
		k++
		fallthrough
	case portAt + 2:
		k++
		fallthrough
	case portAt + 1:
		k++
		fallthrough
	case portAt:
		is = port
	case keeperAt + 1:
		k++
		fallthrough
	case keeperAt:
		is = keeper
	case targetAt + 2:
		k++
		fallthrough
	case targetAt + 1:
		k++
		fallthrough
	case targetAt:
		is = target
	case tallyAt + 2:
		k++
		fallthrough
	case tallyAt + 1:
		k++
		fallthrough
	case tallyAt:
		is = tally
	}
	return is, k
}

// steer does what a write to the register 1 does.
func (t *Tick) steer(v uint8) {
	turnedOn := v &^ t.control
	for k := range t.timers {
		if turnedOn&timerOn(k) != 0 {
			t.timers[k].begin()
		}
	}
	if v&clearLow != 0 {
		clear(t.in[:2])
	}
	if v&clearHigh != 0 {
		clear(t.in[2:])
	}
	t.control = v & controlStays
}
