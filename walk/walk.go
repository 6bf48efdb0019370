// Package walk is what walks a course of the main processor: it keeps the accesses, and stops by itself.
package walk

import "lanthorn/api"

// Walker keeps a course's accesses, and stops by itself at the first read of which the byte was not seen. From there on it keeps nothing more and reads noughts, so whoever lets it walk need not ask at each step.
type Walker struct {
	api.Regs
	Seen    []uint8      // the bytes seen that no read has taken yet
	List    []api.Access // the accesses so far
	Stopped bool
}

// put keeps an access, unless the course has stopped.
func (w *Walker) put(a api.Access) {
	if !w.Stopped {
		w.List = append(w.List, a)
	}
}

// Idle is a cycle in which nothing is touched.
func (w *Walker) Idle() { w.put(api.Access{Kind: api.Idle}) }

// Read reads a byte.
func (w *Walker) Read(addr uint32) uint8 {
	w.put(api.Access{Kind: api.Read, Addr: addr})
	if len(w.Seen) == 0 {
		w.Stopped = true
		return 0
	}
	v := w.Seen[0]
	w.Seen = w.Seen[1:]
	return v
}

// Carry carries out accesses that somebody else has put together, and is the number that the bytes make which they read.
func (w *Walker) Carry(list []api.Access) uint32 {
	n, at := uint32(0), 0
	for _, a := range list {
		if a.Kind != api.Read {
			w.put(a)
			continue
		}
		n |= uint32(w.Read(a.Addr)) << at
		at += 8
	}
	return n
}

// Fetch reads so many bytes of the program, as a number.
func (w *Walker) Fetch(size uint32) uint32 {
	return Number(size, func(uint32) uint8 {
		v := w.Read(Address(w.K, uint32(w.PC)))
		w.PC++
		return v
	})
}

// ReadAt reads so many bytes from the place n of a bank on, which they do not leave, as a number.
func (w *Walker) ReadAt(bank uint8, n, size uint32) uint32 {
	return Number(size, func(i uint32) uint8 { return w.Read(Address(bank, n+i)) })
}

// WriteAt writes a byte at the place n of a bank.
func (w *Walker) WriteAt(bank uint8, n uint32, v uint8) {
	w.put(api.Access{Kind: api.Write, Addr: Address(bank, n), Value: v})
}

// Number puts together so many bytes, the lowest first; byteAt reads the one that is i behind the lowest.
func Number(size uint32, byteAt func(i uint32) uint8) uint32 {
	n := uint32(0)
	for i := range size {
		n |= uint32(byteAt(i)) << (8 * i)
	}
	return n
}

// Address is the place n of a bank.
func Address(bank uint8, n uint32) uint32 { return uint32(bank)<<16 | n&0xffff }
