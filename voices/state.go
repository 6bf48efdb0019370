package voices

import (
	"lanthorn/api"
	"lanthorn/save"
)

// tag is that of the part in which the state is saved.
const tag = 16

// put puts a state.
func (v *Voices) put(w *save.Writer) {
	w.Open(tag)
	w.Bytes(v.regs[:])
	w.Number(v.number)
	w.Word(v.noise)
	w.Byte(v.begin)
	w.Word(v.echo.place)
	w.Bytes(bytesOf(v.echo.row[:]))
	for k := range voiceCount {
		v.voices[k].put(w)
	}
	w.Close()
}

func (c *voice) put(w *save.Writer) {
	w.Word(c.block)
	w.Byte(c.head)
	w.Word(c.place)
	w.Byte(c.Phase)
	w.Word(uint16(c.Level))
	w.Bytes(bytesOf(c.line[:]))
}

// attempt is what takes something, and tells what went wrong.
type attempt func() api.Errno

// take takes a state, such as can't be, too.
func (v *Voices) take(r *save.Reader) api.Errno {
	why := api.OK
	then := func(do attempt) {
		if why == api.OK {
			why = do()
		}
	}
	then(func() api.Errno { return r.Open(tag) })
	then(row(r, v.regs[:]))
	then(value(&v.number, r.Number))
	then(value(&v.noise, r.Word))
	then(value(&v.begin, r.Byte))
	then(value(&v.echo.place, r.Word))
	then(samples(r, v.echo.row[:]))
	for k := range voiceCount {
		v.voices[k].take(r, then)
	}
	then(r.Close)
	return why
}

func (c *voice) take(r *save.Reader, then func(attempt)) {
	var level uint16
	then(value(&c.block, r.Word))
	then(value(&c.head, r.Byte))
	then(value(&c.place, r.Word))
	then(value(&c.Phase, r.Byte))
	then(value(&level, r.Word))
	then(samples(r, c.line[:]))
	c.Level = int(level)
}

// value takes a value to its place.
func value[T any](at *T, next func() (T, api.Errno)) attempt {
	return func() (e api.Errno) {
		*at, e = next()
		return e
	}
}

// row takes a row of just as many bytes as there are places.
func row(r *save.Reader, to []uint8) attempt {
	return func() api.Errno {
		b, e := r.Bytes(len(to))
		if e == api.OK && copy(to, b) < len(to) {
			return api.ErrVoices
		}
		return e
	}
}

// samples takes just as many samples, which are saved as a row of words.
func samples(r *save.Reader, to []int16) attempt {
	return func() api.Errno {
		b := make([]uint8, 2*len(to))
		e := row(r, b)()
		for i := range to {
			to[i] = int16(memory(b).word(uint16(2 * i)))
		}
		return e
	}
}

// bytesOf are samples as words.
func bytesOf(s []int16) []uint8 {
	b := make([]uint8, 2*len(s))
	for i, x := range s {
		memory(b).putWord(uint16(2*i), uint16(x))
	}
	return b
}

// canBe tells whether voices may come to stand so.
func (v *Voices) canBe() bool {
	for k := range voiceCount {
		if !v.voices[k].canBe() {
			return false
		}
	}
	return v.noise < noiseEnd && v.echo.canBe()
}
