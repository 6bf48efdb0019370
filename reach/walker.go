package reach

import "lanthorn/api"

// walker walks a course: it keeps its accesses, and stops by itself at a read of which the byte was not seen. From there on it keeps nothing more and reads noughts, so whoever lets it walk need not ask at each step.
type walker struct {
	api.Regs
	seen    []uint8
	list    []api.Access
	stopped bool
}

// put keeps an access, unless the course has stopped.
func (w *walker) put(a api.Access) {
	if !w.stopped {
		w.list = append(w.list, a)
	}
}

// idle is a cycle in which nothing is touched.
func (w *walker) idle() { w.put(api.Access{Kind: api.Idle}) }

// read reads a byte.
func (w *walker) read(addr uint32) uint8 {
	w.put(api.Access{Kind: api.Read, Addr: addr})
	if len(w.seen) == 0 {
		w.stopped = true
		return 0
	}
	v := w.seen[0]
	w.seen = w.seen[1:]
	return v
}

// number puts together so many bytes, the lowest first; byteAt reads the one that is i behind the lowest.
func number(size uint32, byteAt func(i uint32) uint8) uint32 {
	n := uint32(0)
	for i := range size {
		n |= uint32(byteAt(i)) << (8 * i)
	}
	return n
}

// fetch reads so many bytes of the program.
func (w *walker) fetch(size uint32) uint32 {
	return number(size, func(uint32) uint8 {
		v := w.read(address(w.K, uint32(w.PC)))
		w.PC++
		return v
	})
}

// direct reads so many bytes from the direct place n on.
func (w *walker) direct(n, size uint32) uint32 {
	return number(size, func(i uint32) uint8 { return w.read(Direct(w.Regs, n+i)) })
}

// offset fetches the byte that says where in the direct page something lies.
func (w *walker) offset() uint32 {
	o := w.fetch(1)
	if w.D&0xff != 0 {
		w.idle()
	}
	return o
}

// offsetBy is offset with an index.
func (w *walker) offsetBy(index uint16) uint32 {
	o := w.offset()
	w.idle()
	return o + uint32(index)
}

// stack fetches the byte that says how far from the stack's place something lies.
func (w *walker) stack() uint32 {
	o := w.fetch(1)
	w.idle()
	return uint32(w.S) + o
}

// page is the direct place n as an operand's.
func (w *walker) page(n uint32) api.Place { return within(Direct(w.Regs, n)) }

// data is the place n of the bank of data.
func (w *walker) data(n uint32) uint32 { return address(w.B, n) }

// indexed is an address and an index together, behind the index's idle: only what does not write, by a narrow index that stays in its page, goes without it.
func (w *walker) indexed(addr uint32, index uint16, use uint8) uint32 {
	sum := addr + uint32(index)
	writes := use == api.UseWrite || use == api.UseChange
	if writes || w.P&api.FlagX == 0 || crossed(addr, sum) {
		w.idle()
	}
	return sum
}

// operand walks to the operand of a mode, and is its place; of a mode without one in memory it is nothing.
func (w *walker) operand(mode, use uint8) api.Place {
	switch mode {
	case api.ModeD:
		return w.page(w.offset())
	case api.ModeDX:
		return w.page(w.offsetBy(w.X))
	case api.ModeDY:
		return w.page(w.offsetBy(w.Y))
	case api.ModeInd:
		return across(w.data(w.direct(w.offset(), 2)))
	case api.ModeIndLong:
		return across(w.direct(w.offset(), 3))
	case api.ModeIndX:
		return across(w.data(w.direct(w.offsetBy(w.X), 2)))
	case api.ModeIndY:
		return across(w.indexed(w.data(w.direct(w.offset(), 2)), w.Y, use))
	case api.ModeIndLongY:
		return across(w.direct(w.offset(), 3) + uint32(w.Y))
	case api.ModeAbs:
		return across(w.data(w.fetch(2)))
	case api.ModeAbsX:
		return across(w.indexed(w.data(w.fetch(2)), w.X, use))
	case api.ModeAbsY:
		return across(w.indexed(w.data(w.fetch(2)), w.Y, use))
	case api.ModeLong:
		return across(w.fetch(3))
	case api.ModeLongX:
		return across(w.fetch(3) + uint32(w.X))
	case api.ModeS:
		return within(address(0, w.stack()))
	case api.ModeSY:
		s := w.stack()
		n := number(2, func(i uint32) uint8 { return w.read(address(0, s+i)) })
		w.idle()
		return across(w.data(n) + uint32(w.Y))
	}
	return api.Place{}
}
