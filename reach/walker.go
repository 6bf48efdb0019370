package reach

import (
	"lanthorn/api"
	"lanthorn/walk"
)

// walker walks to an instruction's operand.
type walker struct {
	walk.Walker
}

// direct reads so many bytes from the direct place n on.
func (w *walker) direct(n, size uint32) uint32 {
	return walk.Number(size, func(i uint32) uint8 { return w.Read(Direct(w.Regs, n+i)) })
}

// offset fetches the byte that says where in the direct page something lies.
func (w *walker) offset() uint32 {
	o := w.Fetch(1)
	if w.D&0xff != 0 {
		w.Idle()
	}
	return o
}

// offsetBy is offset with an index.
func (w *walker) offsetBy(index uint16) uint32 {
	o := w.offset()
	w.Idle()
	return o + uint32(index)
}

// stack fetches the byte that says how far from the stack's place something lies.
func (w *walker) stack() uint32 {
	o := w.Fetch(1)
	w.Idle()
	return uint32(w.S) + o
}

// page is the direct place n as an operand's.
func (w *walker) page(n uint32) api.Place { return within(Direct(w.Regs, n)) }

// data is the place n of the bank of data.
func (w *walker) data(n uint32) uint32 { return walk.Address(w.B, n) }

// indexed is an address and an index together, behind the index's idle: only what does not write, by a narrow index that stays in its page, goes without it.
func (w *walker) indexed(addr uint32, index uint16, use uint8) uint32 {
	sum := addr + uint32(index)
	writes := use == api.UseWrite || use == api.UseChange
	if writes || w.P&api.FlagX == 0 || crossed(addr, sum) {
		w.Idle()
	}
	return sum
}

// operand walks to the operand of a mode, and is its place; of a mode without one in memory it is nothing.
func (w *walker) operand(mode, use uint8) api.Place {
	switch mode {
	case api.ModeD:
		return w.page(w.offset())
	case api.ModeDX:
		return w.page(w.offsetBy(w.X))
	case api.ModeDY:
		return w.page(w.offsetBy(w.Y))
	case api.ModeInd:
		return across(w.data(w.direct(w.offset(), 2)))
	case api.ModeIndLong:
		return across(w.direct(w.offset(), 3))
	case api.ModeIndX:
		return across(w.data(w.direct(w.offsetBy(w.X), 2)))
	case api.ModeIndY:
		return across(w.indexed(w.data(w.direct(w.offset(), 2)), w.Y, use))
	case api.ModeIndLongY:
		return across(w.direct(w.offset(), 3) + uint32(w.Y))
	case api.ModeAbs:
		return across(w.data(w.Fetch(2)))
	case api.ModeAbsX:
		return across(w.indexed(w.data(w.Fetch(2)), w.X, use))
	case api.ModeAbsY:
		return across(w.indexed(w.data(w.Fetch(2)), w.Y, use))
	case api.ModeLong:
		return across(w.Fetch(3))
	case api.ModeLongX:
		return across(w.Fetch(3) + uint32(w.X))
	case api.ModeS:
		return within(walk.Address(0, w.stack()))
	case api.ModeSY:
		s := w.stack()
		n := w.ReadAt(0, s, 2)
		w.Idle()
		return across(w.data(n) + uint32(w.Y))
	}
	return api.Place{}
}
