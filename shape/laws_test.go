package shape_test

import (
	"math/rand"
	"testing"

	"lanthorn/api"
	"lanthorn/shape"
)

// P15.5: a level is always one, whatever is handed in.
func TestLevelsAreLevels(t *testing.T) {
	r := rand.New(rand.NewSource(155))
	for range 1000000 {
		s := at(uint8(r.Intn(6)), int(r.Uint64())>>r.Intn(60))
		f := by(uint8(r.Uint32()), uint8(r.Uint32()), uint8(r.Uint32()))
		if got := shape.Step(s, f, someNumber(r)); got.Level < 0 || got.Level > api.MaxLevel {
			t.Fatalf("Step of %+v by %+v: %+v", s, f, got)
		}
	}
}

// P15.5: a shape that is let go is silent behind at most 256 samples, and stays so.
func TestLetGo(t *testing.T) {
	r := rand.New(rand.NewSource(156))
	for level := range api.MaxLevel + 1 {
		f := by(uint8(r.Uint32()), uint8(r.Uint32()), uint8(r.Uint32()))
		l := some(shape.Run(shape.Off(at(uint8(r.Intn(5)), level)), f, someNumber(r)), 600)
		for i, s := range l {
			if s.Phase != release || i >= 255 && s.Level != 0 || i > 0 && s.Level > l[i-1].Level {
				t.Fatalf("let go at %d, by %+v, behind %d samples: %+v", level, f, i+1, s)
			}
		}
	}
	if l := some(shape.Run(shape.Off(at(sustain, api.MaxLevel)), by(0, 0, 0), 0), 256); l[254].Level != 7 || l[255].Level != 0 {
		t.Errorf("let go at the greatest level: %+v, %+v", l[254], l[255])
	}
}

// P15.5: a fresh shape whose attack is 15 is at its greatest level behind two samples.
func TestFastestAttack(t *testing.T) {
	for d := range 8 {
		for sus := range 256 {
			f := by(uint8(0x8f|d<<4), uint8(sus), 0)
			for n := int64(-5); n < 5; n++ {
				if l := some(shape.Run(shape.On(), f, n), 2); l[0] != at(attack, 1024) || l[1] != at(decay, 2047) {
					t.Fatalf("by %+v from %d on: %+v", f, n, l)
				}
			}
		}
	}
}

// P15.5: going by its phase a level never rises but in attack, and never falls in it.
func TestRiseAndFall(t *testing.T) {
	r := rand.New(rand.NewSource(157))
	for level := range api.MaxLevel + 1 {
		for a := 0x80; a < 0x100; a++ {
			for _, phase := range []uint8{release, attack, decay, sustain, 4} {
				f := by(uint8(a), uint8(r.Uint32()), uint8(r.Uint32()))
				got := shape.Step(at(phase, level), f, someNumber(r))
				if phase != attack && got.Level > level || phase == attack && got.Level < level {
					t.Fatalf("Step of %d, %d by %+v: %+v", phase, level, f, got)
				}
			}
		}
	}
}

// P15.6: of unlike noises the next ones are unlike, of none but 0 it is 0; so each comes round to itself.
func TestNoiseGoesRound(t *testing.T) {
	var ahead [32768]int
	for x := range ahead {
		ahead[x] = -1
	}
	for x := range ahead {
		next := shape.Noise(uint16(x))
		if next >= 32768 || (next == 0) != (x == 0) || ahead[next] != -1 {
			t.Fatalf("Noise of %04X and of %04X is %04X", x, ahead[next&0x7fff], next)
		}
		ahead[next] = x
	}
	x, count := shape.Noise(0x4000), 1
	for x != 0x4000 && count <= 32768 {
		x = shape.Noise(x)
		count++
	}
	if x != 0x4000 {
		t.Error("4000 does not come round")
	}
}
