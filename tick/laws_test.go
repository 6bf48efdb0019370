package tick_test

import (
	"bytes"
	"math/rand"
	"testing"

	"lanthorn/api"
	"lanthorn/player"
	"lanthorn/tick"
)

// P13.4: a timer that is on, whose count, divider and tally are 0, has made its tally one more behind each period times its target.
func TestTimersTally(t *testing.T) {
	for i, period := range periods {
		for target := range 256 {
			k := tick.New()
			k.Write(uint8(10+i), uint8(target))
			k.Write(1, 1<<i)
			cycles := period * target
			if target == 0 {
				cycles = period * 256
			}
			for range 3 {
				pass(k, cycles-1)
				wantRead(t, k, uint8(13+i), 0)
				k.Step()
				wantRead(t, k, uint8(13+i), 1)
			}
		}
	}
}

// side is a player over a memory with timers, ports and the start-up program, and a main side that may act between any two cycles.
type side struct {
	t      *testing.T
	r      *rand.Rand
	memory []uint8
	player *player.Player
	tick   *tick.Tick
}

func newSide(t *testing.T, r *rand.Rand) *side {
	memory := make([]uint8, 65536)
	r.Read(memory)
	return &side{t, r, memory, player.New(api.Pegs{Pc: 0xffc0}), tick.New()}
}

// read is what the player reads at an address.
func (s *side) read(addr uint32) uint8 {
	switch {
	case addr >= 0xf0 && addr <= 0xff:
		return s.tick.Read(uint8(addr - 0xf0))
	case addr >= 0xffc0 && s.tick.Shown():
		v, e := tick.Boot(int(addr - 0xffc0))
		if e != api.OK {
			s.t.Fatalf("Boot at %04X: error %d", addr, e)
		}
		return v
	}
	return s.memory[addr]
}

// cycle carries out a cycle of the player, and lets it pass for the timers.
func (s *side) cycle() {
	v := uint8(0)
	switch a := s.player.Next(); {
	case a.Kind == api.Read:
		v = s.read(a.Addr)
	case a.Kind == api.Write && a.Addr >= 0xf0 && a.Addr <= 0xff:
		s.tick.Write(uint8(a.Addr-0xf0), a.Value)
	case a.Kind == api.Write:
		s.memory[a.Addr] = a.Value
	}
	s.player.Step(v)
	s.tick.Step()
}

// until carries out cycles till something holds, and some more, as a main side that dawdles.
func (s *side) until(what string, holds func() bool) {
	s.t.Helper()
	for n := 0; !holds(); n++ {
		if n == 1000 {
			s.t.Fatalf("it never comes to %s; the player is at %+v", what, s.player.Pegs())
		}
		s.cycle()
	}
	for range s.r.Intn(50) * s.r.Intn(2) {
		s.cycle()
	}
}

func (s *side) untilOut(want uint8) {
	s.t.Helper()
	s.until("what goes out", func() bool {
		v, e := s.tick.Out(0)
		return e == api.OK && v == want
	})
}

// in lets bytes come in, at the ports from the upper ones down, some cycles between them.
func (s *side) in(at int, v ...uint8) {
	s.t.Helper()
	for i := len(v) - 1; i >= 0; i-- {
		for range s.r.Intn(3) {
			s.cycle()
		}
		in(s.t, s.tick, at+i, v[i])
	}
}

// give lets the start-up program put bytes to an address.
func (s *side) give(addr uint16, row []uint8) {
	s.t.Helper()
	s.untilOut(0xa5)
	s.in(2, uint8(addr), uint8(addr>>8))
	s.in(0, 0x5a)
	s.untilOut(0)
	count := uint8(1)
	for _, v := range row {
		s.in(0, count, v)
		s.untilOut(count)
		if count++; count == 0 {
			count = 1
		}
	}
}

// goOn lets it go on at an address.
func (s *side) goOn(addr uint16) {
	s.t.Helper()
	s.in(2, uint8(addr), uint8(addr>>8))
	s.in(0, 0)
	for n := 0; s.player.Pegs().Pc != addr || s.player.Done() > 0; n++ {
		if n == 1000 {
			s.t.Fatalf("it does not go on at %04X; the player is at %+v", addr, s.player.Pegs())
		}
		s.cycle()
	}
}

// P13.4: the start-up program puts whatever bytes it is given to where it is told (beneath itself, too), nothing else, and goes on where it is told.
func TestStartUp(t *testing.T) {
	r := rand.New(rand.NewSource(134))
	for _, x := range []struct {
		addr uint16
		size int
	}{
		{0x200, 0}, {0x200, 1}, {0x2ff, 2}, {0x200, 254}, {0x200, 255}, {0x200, 256}, {0x200, 257}, {0x280, 600},
		{0x2, 0xee}, {0x100, 300}, {0xff, 0}, {0xffc0, 64}, {0xff00, 256}, {0xffff, 1}, {0x1234, 3000},
	} {
		for range 3 {
			s := newSide(t, r)
			row := make([]uint8, x.size)
			r.Read(row)
			want := bytes.Clone(s.memory)
			copy(want[x.addr:], row)
			s.give(x.addr, row)
			s.goOn(uint16(0x300 + r.Intn(0x8000)))
			if !bytes.Equal(s.memory[2:], want[2:]) { // the first two bytes are its own
				t.Errorf("%d bytes to %04X: the memory is another one", x.size, x.addr)
			}
			if !s.tick.Shown() {
				t.Error("it is not shown any more")
			}
		}
	}
}

// P13.4: it may go on with itself, and take more; what lies beneath it is seen when it is not shown any more.
func TestStartUpAgain(t *testing.T) {
	r := rand.New(rand.NewSource(135))
	s := newSide(t, r)
	s.give(0xffc0, []uint8{0x8f, 0x77, 0xf5, 0x2f, 0xfe}) // MOV F5,#77; BRA FFC3
	s.goOn(0xffc0)
	s.give(0x4321, []uint8{0x8f, 0x00, 0xf1, 0x5f, 0xc0, 0xff}) // MOV F1,#00; JMP !FFC0
	s.goOn(0x4321)
	for range 100 {
		s.cycle()
	}
	wantOut(t, s.tick, 1, 0x77)
	if s.tick.Shown() || s.player.Pegs().Pc != 0xffc3 {
		t.Errorf("shown: %v, at %+v", s.tick.Shown(), s.player.Pegs())
	}
}

// P13.4: it begins where its last two bytes say.
func TestStartUpBegins(t *testing.T) {
	low, _ := tick.Boot(62)
	high, _ := tick.Boot(63)
	if low != 0xc0 || high != 0xff {
		t.Errorf("it begins at %02X%02X", high, low)
	}
}

// P13.3, P13.4: saved and loaded between any two cycles a timer goes on just so.
func TestSavedGoesOn(t *testing.T) {
	r := rand.New(rand.NewSource(136))
	for range 20 {
		s := aState(r)
		for !s.canBe() {
			s = aState(r)
		}
		straight, relay := loaded(t, s), loaded(t, s)
		for range 300 {
			heir := tick.New()
			pass(heir, r.Intn(40))
			if e := heir.Load(reader(t, bodyOf(t, relay))); e != api.OK {
				t.Fatal("Load: error", e)
			}
			n := r.Intn(200)
			pass(relay, 7) // which is nothing to the heir
			relay = heir
			pass(relay, n)
			pass(straight, n)
			if !bytes.Equal(bodyOf(t, straight), bodyOf(t, relay)) {
				t.Fatalf("% X, want % X", bodyOf(t, relay), bodyOf(t, straight))
			}
		}
	}
}
