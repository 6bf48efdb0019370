package shape_test

import (
	"math"
	"math/rand"
	"testing"

	"lanthorn/api"
	"lanthorn/shape"
)

// naivePeriod is the chapter once more: a rate's period, 0 if it has none.
func naivePeriod(rate int) int64 {
	if rate == 0 {
		return 0
	}
	if rate == 31 {
		return 1
	}
	p := 2048.0
	if (rate-1)%3 == 1 {
		p = 1536
	} else if (rate-1)%3 == 2 {
		p = 1280
	}
	for range int(math.Floor(float64(rate-1) / 3)) {
		p /= 2
	}
	return int64(math.Floor(p))
}

func naiveBeats(rate int, n int64) bool {
	p := naivePeriod(rate)
	return p > 0 && n%p == 0
}

// byPart is a level that went down by a part.
func byPart(level int) int {
	return level - (int(math.Floor(float64(level-1)/256)) + 1)
}

// within is a level that is one.
func within(level int) int {
	if level < 0 {
		return 0
	}
	if level > 2047 {
		return 2047
	}
	return level
}

// naiveByPhase is a sample that passes, going by the phase; the level may be none behind it.
func naiveByPhase(phase uint8, level int, f api.Form, n int64) (uint8, int) {
	bits := func(b uint8, from, count int) int { return int(b) / (1 << from) % (1 << count) }
	if phase == 0 {
		level -= 8
	} else if phase == 1 {
		a := bits(f.Attack, 0, 4)
		if a == 15 {
			level += 1024
		} else if naiveBeats(2*a+1, n) {
			level += 32
		}
		if level >= 2047 {
			phase = 2
		}
	} else if phase == 2 {
		if naiveBeats(16+2*bits(f.Attack, 4, 3), n) {
			level = byPart(level)
		}
		if level <= 256*(bits(f.Sustain, 5, 3)+1) {
			phase = 3
		}
	} else if naiveBeats(bits(f.Sustain, 0, 5), n) {
		level = byPart(level)
	}
	return phase, level
}

// naiveByGain is a level behind a sample, going by Gain; it may be none.
func naiveByGain(level int, gain int, n int64) int {
	if gain < 128 {
		return 16 * gain
	}
	if !naiveBeats(gain%32, n) {
		return level
	}
	switch (gain - 128) / 32 {
	case 0:
		return level - 32
	case 1:
		return byPart(level)
	case 2:
		return level + 32
	}
	if level < 1536 {
		return level + 32
	}
	return level + 8
}

func naiveStep(s api.Shape, f api.Form, n int64) api.Shape {
	phase, level := s.Phase, within(s.Level)
	if f.Attack >= 128 || phase == 0 {
		phase, level = naiveByPhase(phase, level, f, n)
	} else {
		level = naiveByGain(level, int(f.Gain), n)
	}
	return api.Shape{Phase: phase, Level: within(level)}
}

// someNumber is a sample's number at which rates beat often, or a neighbour.
func someNumber(r *rand.Rand) int64 {
	switch r.Intn(6) {
	case 0:
		return r.Int63n(1 << 40)
	case 1:
		return -r.Int63()
	case 2:
		return math.MinInt64 + r.Int63n(3)
	case 3:
		return math.MaxInt64 - r.Int63n(3)
	}
	beat := naivePeriod(1 + r.Intn(31))
	return (r.Int63n(1<<20)-1<<19)*beat + r.Int63n(7)/3 - 1
}

// someLevel is any level, now and then one that is none.
func someLevel(r *rand.Rand) int {
	switch r.Intn(20) {
	case 0:
		return 2048 + r.Intn(5000)
	case 1:
		return -1 - r.Intn(5000)
	case 2:
		return 256*r.Intn(9) + r.Intn(5) - 2
	}
	return r.Intn(2048)
}

func wantNaive(t *testing.T, s api.Shape, f api.Form, n int64) {
	t.Helper()
	if got, want := shape.Step(s, f, n), naiveStep(s, f, n); got != want {
		t.Fatalf("Step of %+v by %+v, n %d: %+v, want %+v", s, f, n, got, want)
	}
}

// P15.2: all pairs of Attack and Sustain, and of Gain and a level, in each phase.
func TestAgainstChapter(t *testing.T) {
	r := rand.New(rand.NewSource(152))
	for _, phase := range []uint8{release, attack, decay, sustain, 4, 7, 128, 255} {
		for x := range 65536 {
			for range 4 {
				wantNaive(t, at(phase, someLevel(r)), by(uint8(x>>8), uint8(x), uint8(r.Uint32())), someNumber(r))
			}
		}
		for x := range 256 * 2048 {
			wantNaive(t, at(phase, x/256), by(uint8(r.Intn(128)), uint8(r.Uint32()), uint8(x)), someNumber(r))
		}
	}
}

// P15.3: whole lives of shapes, whose forms change, and which are let go.
func TestLivesAgainstChapter(t *testing.T) {
	r := rand.New(rand.NewSource(153))
	for range 300 {
		s, n := shape.On(), someNumber(r)
		for range 40 {
			f := by(uint8(r.Uint32())|0x80, uint8(r.Uint32()), uint8(r.Uint32()))
			if r.Intn(4) == 0 {
				f.Attack &= 0x7f
			}
			l := some(shape.Run(s, f, n), 1+r.Intn(300))
			for _, got := range l {
				if want := naiveStep(s, f, n); got != want {
					t.Fatalf("Run behind %+v by %+v, n %d: %+v, want %+v", s, f, n, got, want)
				}
				s = got
				n++
			}
			if r.Intn(20) == 0 {
				s = shape.Off(s)
			}
		}
	}
}
