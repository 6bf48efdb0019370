package tick

// timerCount is how many timers there are.
const timerCount = 3

// periods are how many cycles a period of each timer has.
var periods = [timerCount]uint8{128, 128, 16}

// mostTally is a tally's greatest number, behind which it is 0 again.
const mostTally = 15

// timer is one of the timers.
type timer struct {
	target  uint8 // 0 stands for 256, as the count comes round to it
	divider uint8
	count   uint8
	tally   uint8
}

// pass lets a cycle pass; the divider goes on while the timer is off, too.
func (m *timer) pass(period uint8, on bool) {
	m.divider++
	if m.divider < period {
		return
	}
	m.divider = 0
	if on {
		m.tick()
	}
}

// tick lets a period of a timer that is on pass.
func (m *timer) tick() {
	m.count++
	if m.count == m.target {
		m.count = 0
		m.tally = (m.tally + 1) & mostTally
	}
}

// begin makes the timer ready to be on; where its divider stands is left.
func (m *timer) begin() { m.count, m.tally = 0, 0 }

// tallied takes the tally.
func (m *timer) tallied() uint8 {
	n := m.tally
	m.tally = 0
	return n
}

// canBe tells whether a timer may come to stand so.
func (m *timer) canBe(period uint8) bool { return m.divider < period && m.tally <= mostTally }

// places are where its saved bytes stand, in the order in which they are saved.
func (m *timer) places() [4]*uint8 {
	return [...]*uint8{&m.target, &m.divider, &m.count, &m.tally}
}
