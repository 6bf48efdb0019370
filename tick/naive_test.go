package tick_test

import (
	"math/rand"
	"testing"

	"lanthorn/api"
	"lanthorn/tick"
)

// naive is the chapter once more: it counts the cycles that have passed, and works the dividers out of them.
type naive struct {
	cycles  int // that have passed since its beginning
	ahead   [3]int
	on      [3]bool
	shown   bool
	numbers [3]struct{ target, count, tally int }
	in, out [4]uint8
	kept    [2]uint8
}

// naiveOf is one in a state.
func naiveOf(s saved) naive {
	n := naive{shown: s.control >= 128, in: s.in, out: s.out, kept: s.kept}
	for i, m := range s.timers {
		n.on[i] = s.control>>i%2 == 1
		n.ahead[i] = int(m[1])
		n.numbers[i].target, n.numbers[i].count, n.numbers[i].tally = int(m[0]), int(m[2]), int(m[3])
	}
	return n
}

func (n *naive) divider(i int) int { return (n.ahead[i] + n.cycles) % periods[i] }

func (n *naive) saved() saved {
	s := saved{in: n.in, out: n.out, kept: n.kept}
	if n.shown {
		s.control = 128
	}
	for i, m := range n.numbers {
		if n.on[i] {
			s.control += 1 << i
		}
		s.timers[i] = [4]uint8{uint8(m.target), uint8(n.divider(i)), uint8(m.count), uint8(m.tally)}
	}
	return s
}

func (n *naive) step() {
	n.cycles++
	for i := range n.numbers {
		m := &n.numbers[i]
		if n.divider(i) != 0 || !n.on[i] {
			continue
		}
		m.count = (m.count + 1) % 256
		if m.count == m.target {
			m.count = 0
			m.tally = (m.tally + 1) % 16
		}
	}
}

func (n *naive) read(reg int) uint8 {
	if reg >= 4 && reg < 8 {
		return n.in[reg-4]
	}
	if reg >= 8 && reg < 10 {
		return n.kept[reg-8]
	}
	if reg >= 13 && reg < 16 {
		v := n.numbers[reg-13].tally
		n.numbers[reg-13].tally = 0
		return uint8(v)
	}
	return 0
}

func (n *naive) write(reg int, v uint8) {
	if reg >= 4 && reg < 8 {
		n.out[reg-4] = v
	}
	if reg >= 8 && reg < 10 {
		n.kept[reg-8] = v
	}
	if reg >= 10 && reg < 13 {
		n.numbers[reg-10].target = int(v)
	}
	if reg != 1 {
		return
	}
	for i := range n.on {
		now := v>>i%2 == 1
		if now && !n.on[i] {
			n.numbers[i].count, n.numbers[i].tally = 0, 0
		}
		n.on[i] = now
	}
	for at := range n.in {
		if v>>(4+at/2)%2 == 1 {
			n.in[at] = 0
		}
	}
	n.shown = v >= 128
}

// some is a byte, often one at an edge.
func some(r *rand.Rand) uint8 {
	if r.Intn(3) == 0 {
		return []uint8{0, 1, 2, 7, 0x0f, 0x10, 0x7f, 0x80, 0x87, 0xff}[r.Intn(10)]
	}
	return uint8(r.Intn(256))
}

// deed does something of any kind with both, and asks that they answer the same.
func deed(t *testing.T, r *rand.Rand, k *tick.Tick, n *naive) {
	t.Helper()
	reg, v := r.Intn(16), some(r)
	switch r.Intn(6) {
	case 0:
		if r.Intn(20) == 0 {
			reg = r.Intn(256)
		}
		k.Write(uint8(reg), v)
		n.write(reg, v)
	case 1:
		if want := n.read(reg); k.Read(uint8(reg)) != want {
			t.Fatalf("register %d reads otherwise, not as %d, of %+v", reg, want, n)
		}
	case 2:
		at := r.Intn(6) - 1
		e := k.In(at, v)
		if at < 0 || at > 3 {
			if e != api.ErrRange {
				t.Fatalf("In at port %d: error %d", at, e)
			}
		} else if n.in[at] = v; e != api.OK {
			t.Fatalf("In at port %d: error %d", at, e)
		}
	case 3:
		at := r.Intn(4)
		wantOut(t, k, at, n.out[at])
	default:
		for range r.Intn(200) {
			k.Step()
			n.step()
		}
	}
}

func wantSame(t *testing.T, k *tick.Tick, n *naive) {
	t.Helper()
	wantState(t, k, n.saved())
	if k.Shown() != n.shown {
		t.Errorf("shown: %v, want %v", k.Shown(), n.shown)
	}
	if t.Failed() {
		t.FailNow()
	}
}

// P13.1 to P13.3: whatever is done with it, it is what the naive one is, saved and loaded or not.
func TestAnythingIsDone(t *testing.T) {
	r := rand.New(rand.NewSource(132))
	for range 100 {
		k, n := tick.New(), naive{shown: true}
		for range 800 {
			deed(t, r, k, &n)
			wantSame(t, k, &n)
			if r.Intn(10) == 0 {
				k = loaded(t, n.saved())
				wantSame(t, k, &n)
			}
		}
	}
}

// aState is a state, which perhaps can't be.
func aState(r *rand.Rand) saved {
	s := saved{control: uint8(r.Intn(256)) & 0x87}
	if r.Intn(6) == 0 {
		s.control = some(r)
	}
	for i := range s.timers {
		s.timers[i] = [4]uint8{some(r), uint8(r.Intn(periods[i])), some(r), uint8(r.Intn(16))}
		if r.Intn(12) == 0 {
			s.timers[i][1] = uint8(periods[i] - 1 + r.Intn(2))
		}
		if r.Intn(12) == 0 {
			s.timers[i][3] = uint8(15 + r.Intn(2))
		}
	}
	for i := range s.in {
		s.in[i], s.out[i] = some(r), some(r)
	}
	s.kept = [2]uint8{some(r), some(r)}
	return s
}

// canBe is what the chapter says against a state, turned.
func (s saved) canBe() bool {
	for i, m := range s.timers {
		if int(m[1]) >= periods[i] || m[3] > 15 {
			return false
		}
	}
	return s.control&0x78 == 0
}

// P13.3, R7: of any state Load takes those that can be, and refuses the others; what it takes is put again as the same bytes, and goes on as the naive one.
func TestAnyStateIsLoaded(t *testing.T) {
	r := rand.New(rand.NewSource(133))
	taken := map[bool]int{}
	k, was := tick.New(), saved{control: 0x80}
	for range 30000 {
		s := aState(r)
		can := s.canBe()
		taken[can]++
		e := k.Load(reader(t, s.part()))
		if !can {
			if e != api.ErrTick {
				t.Fatalf("Load of %+v: error %d", s, e)
			}
			s = was
		} else if e != api.OK {
			t.Fatalf("Load of %+v: error %d", s, e)
		}
		n := naiveOf(s)
		wantSame(t, k, &n)
		for range r.Intn(9) {
			deed(t, r, k, &n)
		}
		wantSame(t, k, &n)
		was = n.saved()
	}
	if taken[true] < 5000 || taken[false] < 5000 {
		t.Errorf("%d states that can be, %d that can't", taken[true], taken[false])
	}
}
