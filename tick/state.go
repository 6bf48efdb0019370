package tick

import (
	"lanthorn/api"
	"lanthorn/save"
)

// tag is that of the part in which the state is saved.
const tag = 13

// places are where the saved bytes stand, in the order in which they are saved.
func (t *Tick) places() []*uint8 {
	list := []*uint8{&t.control}
	for k := range t.timers {
		at := t.timers[k].places()
		list = append(list, at[:]...)
	}
	for _, row := range [][]uint8{t.in[:], t.out[:], t.kept[:]} {
		for k := range row {
			list = append(list, &row[k])
		}
	}
	return list
}

// put puts a state.
func (t *Tick) put(w *save.Writer) {
	w.Open(tag)
	for _, at := range t.places() {
		w.Byte(*at)
	}
	w.Close()
}

// take takes a state, such as can't be, too.
func (t *Tick) take(r *save.Reader) api.Errno {
	why := api.OK
	then := func(do func() api.Errno) {
		if why == api.OK {
			why = do()
		}
	}
	then(func() api.Errno { return r.Open(tag) })
	for _, at := range t.places() {
		then(func() (e api.Errno) {
			*at, e = r.Byte()
			return e
		})
	}
	then(r.Close)
	return why
}

// canBe tells whether timers and ports may come to stand so.
func (t *Tick) canBe() bool {
	for k := range t.timers {
		if !t.timers[k].canBe(periods[k]) {
			return false
		}
	}
	return t.control&^controlStays == 0
}
