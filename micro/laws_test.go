package micro_test

import (
	"math/rand"
	"slices"
	"testing"

	"lanthorn/api"
	"lanthorn/exec"
	"lanthorn/micro"
)

// at is a processor with the registers given, between two turns, its lines off.
func at(t *testing.T, r api.Regs) *micro.CPU {
	t.Helper()
	c := micro.New()
	if e := c.Load(reader(t, naive{regs: r}.body())); e != api.OK {
		t.Fatalf("Load of %+v: error %d", r, e)
	}
	return c
}

// P9.4: step by step, without interrupts, a processor does the accesses of exec.Course, one turn behind the other, and comes to its registers: of each code, and of what comes behind it.
func TestTurnsOfExec(t *testing.T) {
	r := rand.New(rand.NewSource(94))
	for code := range 256 {
		for range 60 {
			n := aState(r)
			c, regs := at(t, n.regs), n.regs
			for turns := range 3 {
				seen := make([]uint8, 12)
				r.Read(seen)
				if turns == 0 {
					seen[0] = uint8(code)
				}
				turn := exec.Course(regs, seen)
				for i, a := range turn.List {
					if got := c.Next(); got != a || c.Regs() != regs || c.Stage().At != i {
						t.Fatalf("code %02x, access %d: %+v, want %+v of %+v", code, i, got, a, turn)
					}
					v := uint8(r.Uint32())
					if a.Kind == api.Read {
						v, seen = seen[0], seen[1:]
					}
					c.Step(v)
				}
				if c.Regs() != turn.Regs {
					t.Fatalf("code %02x: %+v, want %+v", code, c.Regs(), turn.Regs)
				}
				want := []uint8{api.MicroReady, api.MicroWait, api.MicroStop}[turn.After]
				wantStage(t, c, want, 0, 0)
				if want != api.MicroReady {
					break
				}
				regs = turn.Regs
			}
		}
	}
}

// P9.4: Next tells what Step does; asked twice it tells the same, whatever else is asked in between, and changes nothing.
func TestNextIsStep(t *testing.T) {
	r := rand.New(rand.NewSource(941))
	asked, unasked := micro.New(), micro.New()
	for range 20000 {
		before := bodyOf(t, asked)
		first := asked.Next()
		asked.Stage()
		asked.Regs()
		if second := asked.Next(); second != first || !slices.Equal(bodyOf(t, asked), before) {
			t.Fatalf("asked twice: %x, %x", first, second)
		}
		v := aByte(r)
		seen := append(asked.Stage().Seen, v)
		asked.Step(v)
		unasked.Step(v)
		if s := asked.Stage(); s.At > 0 && first.Kind == api.Read && !slices.Equal(s.Seen, seen) {
			t.Fatalf("it has seen % x, want % x", s.Seen, seen)
		}
		if !slices.Equal(bodyOf(t, asked), bodyOf(t, unasked)) {
			t.Fatal("asked or not is not one")
		}
		switch r.Intn(50) {
		case 0:
			asked.NMI()
			unasked.NMI()
		case 1:
			if asked.Stage().Mode == api.MicroStop {
				asked.Reset()
				unasked.Reset()
			}
		}
	}
}

// P9.4: saved between any two cycles, and loaded into any other processor, it goes on as the one that was not; saved again it gives the same bytes.
func TestSavedGoesOn(t *testing.T) {
	r := rand.New(rand.NewSource(942))
	for range 300 {
		straight := at(t, aState(r).regs)
		saved := at(t, straight.Regs())
		for range 60 {
			if r.Intn(10) == 0 {
				on := r.Intn(2) == 0
				straight.IRQ(on)
				saved.IRQ(on)
			}
			body := bodyOf(t, saved)
			other := at(t, aState(r).regs)
			other.NMI()
			other.IRQ(r.Intn(2) == 0)
			for range r.Intn(9) {
				other.Step(aByte(r))
			}
			if e := other.Load(reader(t, body)); e != api.OK || !slices.Equal(bodyOf(t, other), body) {
				t.Fatalf("Load: error %d, saved again % x, was % x", e, bodyOf(t, other), body)
			}
			if straight.Next() != other.Next() {
				t.Fatalf("next is %x, of the other one %x", straight.Next(), other.Next())
			}
			v := aByte(r)
			straight.Step(v)
			other.Step(v)
			saved = other
		}
		if !slices.Equal(bodyOf(t, straight), bodyOf(t, saved)) {
			t.Fatal("they are not one")
		}
	}
}
