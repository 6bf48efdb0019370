package micro

import (
	"lanthorn/api"
	"lanthorn/exec"
)

// mode is where a processor stands.
type mode uint8

// The modes, numbered as those of api are.
const (
	ready mode = api.MicroReady + iota
	running
	entering
	waiting
	stopped
)

// turnOf is a turn of registers, as far as the bytes seen tell it; outside of turns there is none.
func turnOf(m mode, why uint8, r api.Regs, seen []uint8) api.Turn {
	switch m {
	case running:
		return exec.Course(r, seen)
	case entering:
		return exec.Enter(why, r, seen)
	}
	return api.Turn{}
}

// due is what begins with the next step, between two turns, and why.
func (c *CPU) due() (mode, uint8) {
	switch {
	case c.reset:
		return entering, api.WhyReset
	case c.nmi:
		return entering, api.WhyNMI
	case c.irq && c.regs.P&api.FlagI == 0:
		return entering, api.WhyIRQ
	}
	return running, 0
}

// begin begins a turn. An NMI waits on behind a reset that begins.
func (c *CPU) begin() {
	c.mode, c.why = c.due()
	if c.reset {
		c.reset = false
	} else {
		c.nmi = false
	}
	c.know()
}

// bytesSeen are the bytes that the turn's reads have read, a piece of the processor's own.
func (c *CPU) bytesSeen() []uint8 { return c.seen[:c.count] }

// know tells the turn that is under way.
func (c *CPU) know() { c.turn = turnOf(c.mode, c.why, c.regs, c.bytesSeen()) }

// carry carries out the turn's next access.
func (c *CPU) carry(v uint8) {
	kind := c.turn.List[c.at].Kind
	c.at++
	if kind == api.Read {
		c.seen[c.count] = v
		c.count++
		c.know()
	}
	if c.turn.Done && c.at == len(c.turn.List) {
		c.regs = c.turn.Regs
		c.leave(behind(c.turn.After))
	}
}

// behind is where the processor stands behind a turn.
func behind(after uint8) mode {
	switch after {
	case api.AfterWait:
		return waiting
	case api.AfterStop:
		return stopped
	}
	return ready
}

// leave lets the processor stand between two turns.
func (c *CPU) leave(to mode) {
	c.mode, c.why, c.at, c.count = to, 0, 0, 0
	c.know()
}
