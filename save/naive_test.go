package save_test

import (
	"bytes"

	"lanthorn/api"
	"lanthorn/save"
)

// naiveSum is the chapter's word, with the remainder taken at the end of each step.
func naiveSum(b []byte) uint64 {
	n := uint64(1)
	for _, v := range b {
		n = (n*31 + uint64(v) + 7) % (1 << 32)
	}
	return n
}

// low is a number as so many bytes, the lowest first.
func low(n uint64, many int) []byte {
	var b []byte
	for range many {
		b = append(b, byte(n%256))
		n /= 256
	}
	return b
}

// number is the other way about.
func number(b []byte) uint64 {
	var n uint64
	for i := len(b) - 1; i >= 0; i-- {
		n = n*256 + uint64(b[i])
	}
	return n
}

// headed is a body with its head.
func headed(body []byte) []byte {
	return bytes.Join([][]byte{{0x4c, 0x41, 0x4e, 0x54, 1}, low(uint64(len(body)), 4), low(naiveSum(body), 4), body}, nil)
}

// The kinds of what is put: values, parts, and of what is only done, too.
const (
	aByte = iota
	aWord
	aLong
	aNumber
	aFlag
	aRow
	anOpen
	aClose
	kinds
)

// item is a value, or what begins or ends a part.
type item struct {
	kind int
	n    uint64 // a value's number; a part's tag
	row  []byte
}

// naiveWriter is what the open parts have so far, the outermost one (the body) first, and their tags.
type naiveWriter struct {
	parts [][]byte
	tags  []byte
	wrong api.Errno
}

func newNaiveWriter() *naiveWriter { return &naiveWriter{parts: [][]byte{nil}} }

// size is how many bytes the body has.
func (w *naiveWriter) size() int {
	n := 5 * len(w.tags)
	for _, p := range w.parts {
		n += len(p)
	}
	return n
}

// put puts what an item is.
func (w *naiveWriter) put(x item) {
	if w.wrong != api.OK {
		return
	}
	deep := len(w.tags)
	switch x.kind {
	case anOpen:
		if deep == api.MaxParts || w.size()+5 > api.MaxSave {
			w.wrong = api.ErrLarge
			return
		}
		w.tags, w.parts = append(w.tags, byte(x.n)), append(w.parts, nil)
		return
	case aClose:
		if deep == 0 {
			w.wrong = api.ErrArg
			return
		}
		inner := w.parts[deep]
		whole := append([]byte{w.tags[deep-1]}, append(low(uint64(len(inner)), 4), inner...)...)
		w.tags, w.parts = w.tags[:deep-1], w.parts[:deep]
		w.parts[deep-1] = append(w.parts[deep-1], whole...)
		return
	}
	b := bytesOf(x)
	if w.size()+len(b) > api.MaxSave {
		w.wrong = api.ErrLarge
		return
	}
	w.parts[deep] = append(w.parts[deep], b...)
}

// bytesOf are the bytes of a value.
func bytesOf(x item) []byte {
	switch x.kind {
	case aWord:
		return low(x.n, 2)
	case aLong:
		return low(x.n, 4)
	case aNumber:
		return low(x.n, 8)
	case aRow:
		return append(low(uint64(len(x.row)), 4), x.row...)
	}
	return low(x.n, 1)
}

func (w *naiveWriter) done() ([]byte, api.Errno) {
	switch {
	case w.wrong != api.OK:
		return nil, w.wrong
	case len(w.tags) > 0:
		return nil, api.ErrOpen
	}
	return headed(w.parts[0]), api.OK
}

// tell tells a writer an item.
func tell(w *save.Writer, x item) {
	switch x.kind {
	case aByte:
		w.Byte(uint8(x.n))
	case aWord:
		w.Word(uint16(x.n))
	case aLong:
		w.Long(uint32(x.n))
	case aNumber:
		w.Number(int64(x.n))
	case aFlag:
		w.Flag(x.n == 1)
	case aRow:
		w.Bytes(x.row)
	case anOpen:
		w.Open(uint8(x.n))
	case aClose:
		w.Close()
	}
}

// taken is what taking an item answers.
type taken struct {
	n   uint64
	row string
	e   api.Errno
}

// ask takes an item from a reader: of a part's it has the tag, of a row's the greatest length.
func ask(r *save.Reader, kind int, arg int) taken {
	switch kind {
	case aByte:
		v, e := r.Byte()
		return taken{n: uint64(v), e: e}
	case aWord:
		v, e := r.Word()
		return taken{n: uint64(v), e: e}
	case aLong:
		v, e := r.Long()
		return taken{n: uint64(v), e: e}
	case aNumber:
		v, e := r.Number()
		return taken{n: uint64(v), e: e}
	case aFlag:
		v, e := r.Flag()
		if v {
			return taken{n: 1, e: e}
		}
		return taken{e: e}
	case aRow:
		v, e := r.Bytes(arg)
		return taken{row: string(v), e: e}
	case anOpen:
		return taken{e: r.Open(uint8(arg))}
	case aClose:
		return taken{e: r.Close()}
	}
	return taken{e: r.Done()}
}

// naiveReader is what is left of the body and of each open part, the innermost one last; what is left of an outer one lies behind the part.
type naiveReader struct{ rests [][]byte }

// ask is what a reader answers, and what is left then.
func (r *naiveReader) ask(kind int, arg int) taken {
	inner := len(r.rests) - 1
	rest := r.rests[inner]
	pass := func(n int) { r.rests[inner] = rest[n:] }
	switch kind {
	case aRow:
		switch {
		case len(rest) < 4:
			return taken{e: api.ErrEnd}
		case arg < 0 || number(rest[:4]) > uint64(arg):
			return taken{e: api.ErrLarge}
		case number(rest[:4]) > uint64(len(rest)-4):
			return taken{e: api.ErrEnd}
		}
		n := int(number(rest[:4]))
		pass(4 + n)
		return taken{row: string(rest[4 : 4+n])}
	case anOpen:
		switch {
		case inner == api.MaxParts:
			return taken{e: api.ErrLarge}
		case len(rest) < 5:
			return taken{e: api.ErrEnd}
		case rest[0] != byte(arg):
			return taken{e: api.ErrTag}
		case number(rest[1:5]) > uint64(len(rest)-5):
			return taken{e: api.ErrLength}
		}
		n := int(number(rest[1:5]))
		pass(5 + n)
		r.rests = append(r.rests, rest[5:5+n])
		return taken{}
	case aClose:
		switch {
		case inner == 0:
			return taken{e: api.ErrArg}
		case len(rest) > 0:
			return taken{e: api.ErrLeft}
		}
		r.rests = r.rests[:inner]
		return taken{}
	case kinds:
		switch {
		case inner > 0:
			return taken{e: api.ErrOpen}
		case len(rest) > 0:
			return taken{e: api.ErrLeft}
		}
		return taken{}
	}
	n := []int{aByte: 1, aWord: 2, aLong: 4, aNumber: 8, aFlag: 1}[kind]
	if len(rest) < n {
		return taken{e: api.ErrEnd}
	}
	v := number(rest[:n])
	if kind == aFlag && v > 1 {
		return taken{e: api.ErrFlag}
	}
	pass(n)
	return taken{n: v}
}

func (r *naiveReader) left() int { return len(r.rests[len(r.rests)-1]) }
