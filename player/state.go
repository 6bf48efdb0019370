package player

import (
	"lanthorn/api"
	"lanthorn/save"
)

// tag is that of the part in which a player's state is saved.
const tag = 12

// places are where the saved values stand, in the order in which they are saved.
func (s *stand) places() [9]any {
	r := &s.regs
	return [...]any{&r.A, &r.X, &r.Y, &r.S, &r.Psw, &r.Pc, &r.Halt, &s.done, &s.seen}
}

// put puts a state.
func (s *stand) put(w *save.Writer) {
	w.Open(tag)
	for _, place := range s.places() {
		switch at := place.(type) {
		case *uint8:
			w.Byte(*at)
		case *uint16:
			w.Word(*at)
		case *bool:
			w.Flag(*at)
		case *[]uint8:
			w.Bytes(*at)
		}
	}
	w.Close()
}

// take takes a state, such as no player may have, too.
func (s *stand) take(r *save.Reader) api.Errno {
	why := r.Open(tag)
	if why != api.OK {
		return why
	}
taking:
	for _, place := range s.places() {
		switch at := place.(type) {
		case *uint8:
			if *at, why = r.Byte(); why != api.OK {
				break taking
			}
		case *uint16:
			if *at, why = r.Word(); why != api.OK {
				break taking
			}
		case *bool:
			if *at, why = r.Flag(); why != api.OK {
				break taking
			}
		case *[]uint8:
			// The chapter bounds the row by nothing but what the instruction reads, which is asked afterwards.
			if *at, why = r.Bytes(api.MaxSave); why != api.OK {
				break taking
			}
		}
	}
	if why != api.OK {
		return why
	}
	return r.Close()
}
