package player

import (
	"lanthorn/api"
	"lanthorn/tune"
)

// stand is where a player stands, and what it goes on with from there.
type stand struct {
	regs api.Pegs // as they are ahead of the instruction that is under way
	done uint8    // how many of its accesses were carried out
	seen []uint8  // the bytes that these have read

	// What the registers and these bytes tell of the instruction: asked once a byte, not once a cycle.
	list   []api.Access // its accesses, up to and with the first read whose byte lacks
	behind api.Pegs     // the registers behind it, if these are all
}

// begin lets a player stand ahead of the instruction of its registers.
func (s *stand) begin(r api.Pegs) {
	s.regs, s.done, s.seen = r, 0, s.seen[:0]
	s.know()
}

// know tells the instruction, as far as the bytes that it has read tell it.
func (s *stand) know() {
	list, _, behind := tune.Course(s.regs, s.seen)
	s.list = make([]api.Access, len(list))
	copy(s.list, list)
	s.behind = behind
}

// carry carries the next cycle out; if it is a read, v is the byte.
func (s *stand) carry(v uint8) api.Access {
	a := s.list[s.done]
	s.done++
	if a.Kind == api.Read {
		s.seen = append(s.seen, v)
		s.know()
	}
	// Where more is to come the list ends with a read that was not carried out.
	if int(s.done) == len(s.list) {
		s.begin(s.behind)
	}
	return a
}

// canBe tells whether a player may come to stand there: the instruction goes on, and the bytes are those of its reads so far.
func (s *stand) canBe() bool {
	if int(s.done) >= len(s.list) {
		return false
	}
	reads := 0
	for _, a := range s.list[:s.done] {
		if a.Kind == api.Read {
			reads++
		}
	}
	return reads == len(s.seen)
}
