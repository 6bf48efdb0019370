package save

import (
	"bytes"

	"lanthorn/api"
)

// Reader takes values one behind the other.
type Reader struct {
	body []uint8
	at   int
	ends [api.MaxParts]int // of the open parts
	open int
}

// NewReader makes one of saved bytes.
func NewReader(b []byte) (*Reader, api.Errno) {
	var r *Reader
	e := attempt(func() { r = &Reader{body: bytes.Clone(opened(b))} })
	return r, e
}

// Byte takes a byte.
func (r *Reader) Byte() (uint8, api.Errno) { return take[uint8](r) }

// Word takes a number of two bytes.
func (r *Reader) Word() (uint16, api.Errno) { return take[uint16](r) }

// Long takes one of four.
func (r *Reader) Long() (uint32, api.Errno) { return take[uint32](r) }

// Number takes one of eight.
func (r *Reader) Number() (int64, api.Errno) {
	n, e := take[uint64](r)
	return int64(n), e
}

// Flag takes a truth.
func (r *Reader) Flag() (bool, api.Errno) {
	var is bool
	e := r.attempt(func() {
		b := next[uint8](r)
		refuse(b > 1, api.ErrFlag)
		is = b == 1
	})
	return is, e
}

// Bytes takes a row of bytes, of at most so many.
func (r *Reader) Bytes(most int) ([]byte, api.Errno) {
	var row []uint8
	e := r.attempt(func() {
		n := int64(next[uint32](r))
		refuse(n > int64(most), api.ErrLarge)
		row = bytes.Clone(r.cut(n))
	})
	return row, e
}

// Open goes into a part.
func (r *Reader) Open(tag uint8) api.Errno {
	return r.attempt(func() {
		refuse(r.open == len(r.ends), api.ErrLarge)
		refuse(r.left() < partHead, api.ErrEnd)
		refuse(next[uint8](r) != tag, api.ErrTag)
		n := int64(next[uint32](r))
		refuse(n > int64(r.left()), api.ErrLength)
		r.ends[r.open] = r.at + int(n)
		r.open++
	})
}

// Close goes out of it.
func (r *Reader) Close() api.Errno {
	return r.attempt(func() {
		refuse(r.open == 0, api.ErrArg)
		refuse(r.left() > 0, api.ErrLeft)
		r.open--
	})
}

// Left is how many bytes are left in the part.
func (r *Reader) Left() int {
	if r == nil {
		return 0
	}
	return r.left()
}

// Done tells whether all was taken.
func (r *Reader) Done() api.Errno {
	return r.attempt(func() {
		refuse(r.open > 0, api.ErrOpen)
		refuse(r.left() > 0, api.ErrLeft)
	})
}

// attempt does what takes something; where it is given up nothing is taken.
func (r *Reader) attempt(do func()) api.Errno {
	if r == nil {
		return api.ErrNil
	}
	at := r.at
	why := attempt(do)
	if why != api.OK {
		r.at = at
	}
	return why
}

// left is how many bytes are left in the innermost part, in the body where none is open.
func (r *Reader) left() int {
	end := len(r.body)
	if r.open > 0 {
		end = r.ends[r.open-1]
	}
	return end - r.at
}

// cut takes n bytes, a piece of the body.
func (r *Reader) cut(n int64) []uint8 {
	refuse(n > int64(r.left()), api.ErrEnd)
	b := r.body[r.at:][:n]
	r.at += int(n)
	return b
}

// next takes a number, within an attempt.
func next[N number](r *Reader) N { return join[N](r.cut(int64(size[N]()))) }

// take takes a number.
func take[N number](r *Reader) (N, api.Errno) {
	var n N
	e := r.attempt(func() { n = next[N](r) })
	return n, e
}
