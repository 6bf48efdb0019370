package micro

import (
	"lanthorn/api"
	"lanthorn/reach"
	"lanthorn/save"
)

// fault is what loading gives up with.
type fault struct{ why api.Errno }

// refuse gives up, if something is wrong.
func refuse(wrong bool, why api.Errno) {
	if wrong {
		panic(fault{why})
	}
}

// must is a value that a reader had, or gives up.
func must[V any](v V, e api.Errno) V {
	refuse(e != api.OK, e)
	return v
}

// words, bytes and flags are the places of what is saved, in that order; how many accesses were carried out and the bytes seen come behind them.
func (c *CPU) words() [6]*uint16 {
	r := &c.regs
	return [...]*uint16{&r.A, &r.X, &r.Y, &r.S, &r.D, &r.PC}
}
func (c *CPU) bytes() [3]*uint8 { return [...]*uint8{&c.regs.B, &c.regs.K, &c.regs.P} }
func (c *CPU) flags() [3]*bool  { return [...]*bool{&c.reset, &c.nmi, &c.irq} }

// put puts a state.
func (c *CPU) put(w *save.Writer) {
	for _, at := range c.words() {
		w.Word(*at)
	}
	for _, at := range c.bytes() {
		w.Byte(*at)
	}
	w.Flag(c.regs.E)
	w.Byte(uint8(c.mode))
	w.Byte(c.why)
	for _, at := range c.flags() {
		w.Flag(*at)
	}
	w.Byte(uint8(c.at))
	w.Bytes(c.bytesSeen())
}

// take takes a state, such as can't be, too.
func (c *CPU) take(r *save.Reader) {
	for _, at := range c.words() {
		*at = must(r.Word())
	}
	for _, at := range c.bytes() {
		*at = must(r.Byte())
	}
	c.regs.E = must(r.Flag())
	c.mode = mode(must(r.Byte()))
	c.why = must(r.Byte())
	for _, at := range c.flags() {
		*at = must(r.Flag())
	}
	c.at = int(must(r.Byte()))
	c.count = copy(c.seen[:], must(r.Bytes(mostSeen)))
	c.know()
}

// taken is the processor that a reader has, or why there is none.
func taken(r *save.Reader) (c CPU, why api.Errno) {
	defer func() {
		given := recover()
		if given == nil {
			return
		}
		f, ok := given.(fault)
		if !ok { // a mistake of the program's own, which is not to be hidden
			panic(given)
		}
		c, why = CPU{}, f.why
	}()
	c.take(r)
	refuse(!c.canBe(), api.ErrState)
	return c, api.OK
}

// canBe tells whether a processor may come to stand there.
func (c *CPU) canBe() bool {
	if c.regs != reach.Settle(c.regs) || c.reset && c.mode != ready {
		return false
	}
	switch c.mode {
	case ready, waiting, stopped:
		return c.why == 0 && c.at == 0 && c.count == 0
	case running:
		return c.why == 0 && c.within()
	case entering:
		return c.why <= api.WhyIRQ && c.within()
	}
	return false
}

// within tells whether the turn goes from what was carried out to one access more at least, the bytes seen being those of the reads so far.
func (c *CPU) within() bool {
	if c.at < 1 || c.at >= len(c.turn.List) {
		return false
	}
	reads := 0
	for _, a := range c.turn.List[:c.at] {
		if a.Kind == api.Read {
			reads++
		}
	}
	return reads == c.count
}
