package save

import "lanthorn/api"

// Writer puts values one behind the other.
type Writer struct {
	body  []uint8
	parts [api.MaxParts]int // where the values of each open part begin
	open  int
	wrong api.Errno
}

// NewWriter makes an empty one.
func NewWriter() *Writer { return &Writer{} }

// Byte puts a byte.
func (w *Writer) Byte(v uint8) { w.attempt(func() { put(w, v) }) }

// Word puts a number of two bytes.
func (w *Writer) Word(v uint16) { w.attempt(func() { put(w, v) }) }

// Long puts one of four.
func (w *Writer) Long(v uint32) { w.attempt(func() { put(w, v) }) }

// Number puts one of eight.
func (w *Writer) Number(v int64) { w.attempt(func() { put(w, uint64(v)) }) }

// Flag puts a truth.
func (w *Writer) Flag(v bool) {
	var b uint8
	if v {
		b = 1
	}
	w.Byte(b)
}

// Bytes puts a row of bytes.
func (w *Writer) Bytes(b []byte) {
	w.attempt(func() {
		row := w.room(longSize + len(b))
		lay(row, uint32(len(b)))
		copy(row[longSize:], b)
	})
}

// Open begins a part.
func (w *Writer) Open(tag uint8) {
	w.attempt(func() {
		refuse(w.open == len(w.parts), api.ErrLarge)
		lay(w.room(partHead), tag) // how many bytes it has is laid by Close
		w.parts[w.open] = len(w.body)
		w.open++
	})
}

// Close ends it.
func (w *Writer) Close() {
	w.attempt(func() {
		refuse(w.open == 0, api.ErrArg)
		w.open--
		first := w.parts[w.open]
		lay(w.body[first-longSize:], uint32(len(w.body)-first))
	})
}

// Done is all that was put, with its head.
func (w *Writer) Done() ([]byte, api.Errno) {
	var all []uint8
	e := attempt(func() {
		refuse(w == nil, api.ErrNil)
		refuse(w.wrong != api.OK, w.wrong)
		refuse(w.open > 0, api.ErrOpen)
		all = sealed(w.body)
	})
	return all, e
}

// attempt does what puts something, unless something went wrong before; what goes wrong stays.
func (w *Writer) attempt(do func()) {
	if w != nil && w.wrong == api.OK {
		w.wrong = attempt(do)
	}
}

// room is n new bytes at the body's end, which are 0.
func (w *Writer) room(n int) []uint8 {
	had := len(w.body)
	refuse(n > api.MaxSave-had, api.ErrLarge)
	w.body = append(w.body, make([]uint8, n)...)
	return w.body[had:]
}

// put puts a number.
func put[N number](w *Writer, n N) { lay(w.room(size[N]()), n) }
