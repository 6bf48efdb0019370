package shape_test

import (
	"iter"
	"math"
	"slices"
	"testing"

	"lanthorn/api"
	"lanthorn/shape"
)

// at is a shape; by is a form.
func at(phase uint8, level int) api.Shape { return api.Shape{Phase: phase, Level: level} }

func by(attack, sustain, gain uint8) api.Form {
	return api.Form{Attack: attack, Sustain: sustain, Gain: gain}
}

// step is a sample that passes, and what is to come of it.
type step struct {
	s    api.Shape
	f    api.Form
	n    int64
	want api.Shape
}

func wantSteps(t *testing.T, steps ...step) {
	t.Helper()
	for _, x := range steps {
		if got := shape.Step(x.s, x.f, x.n); got != x.want {
			t.Errorf("Step of %+v by %+v, n %d: %+v, want %+v", x.s, x.f, x.n, got, x.want)
		}
	}
}

// The chapter's names for phases, shorter.
const (
	release = api.PhaseRelease
	attack  = api.PhaseAttack
	decay   = api.PhaseDecay
	sustain = api.PhaseSustain
)

// The chapter's examples.
func TestExamples(t *testing.T) {
	for rate, want := range map[uint8]int{0: 0, 1: 2048, 2: 1536, 3: 1280, 4: 1024, 28: 4, 29: 3, 30: 2, 31: 1, 32: 0} {
		if got := shape.Period(rate); got != want {
			t.Errorf("Period(%d): %d, want %d", rate, got, want)
		}
	}
	if !shape.Beats(4, 2048) || shape.Beats(4, 1000) || shape.Beats(0, 0) {
		t.Error("Beats:", shape.Beats(4, 2048), shape.Beats(4, 1000), shape.Beats(0, 0))
	}
	first := shape.Step(shape.On(), by(0x8f, 0, 0), 1)
	if second := shape.Step(first, by(0x8f, 0, 0), 2); first != at(attack, 1024) || second != at(decay, 2047) {
		t.Errorf("Step of On by Attack 8F: %+v; of that: %+v", first, second)
	}
	wantSteps(t,
		step{at(release, 5), by(0, 0, 0), 1, at(release, 0)},
		step{at(release, 20), by(0, 0, 0), 1, at(release, 12)},
		step{at(sustain, 1000), by(0, 0, 0x20), 1, at(sustain, 512)},
		step{at(sustain, 1536), by(0, 0, 0xff), 1, at(sustain, 1544)},
		step{at(sustain, 1535), by(0, 0, 0xff), 1, at(sustain, 1567)},
		step{at(sustain, 257), by(0, 0, 0xbf), 1, at(sustain, 255)},
		step{at(sustain, 30), by(0, 0, 0x9f), 1, at(sustain, 0)},
	)
	for x, want := range map[uint16]uint16{1: 0x4000, 2: 0x4001, 0x4000: 0x2000} {
		if got := shape.Noise(x); got != want {
			t.Errorf("Noise(%04X): %04X, want %04X", x, got, want)
		}
	}
}

// The chapter's numbers.
func TestNumbers(t *testing.T) {
	if release != 0 || attack != 1 || decay != 2 || sustain != 3 || api.MaxLevel != 2047 {
		t.Error(release, attack, decay, sustain, api.MaxLevel)
	}
}

// P15.1: all rates, those that are none too.
func TestPeriod(t *testing.T) {
	want := []int{
		0, 2048, 1536, 1280, 1024, 768, 640, 512, 384, 320, 256, 192, 160, 128, 96, 80,
		64, 48, 40, 32, 24, 20, 16, 12, 10, 8, 6, 5, 4, 3, 2, 1,
	}
	for rate := range 256 {
		period := 0
		if rate < len(want) {
			period = want[rate]
		}
		if got := shape.Period(uint8(rate)); got != period {
			t.Errorf("Period(%d): %d, want %d", rate, got, period)
		}
	}
}

// P15.1: each rate at the samples round its beats; of numbers below 0 as of those above.
func TestBeats(t *testing.T) {
	for rate := range 256 {
		period := int64(shape.Period(uint8(rate)))
		beats := func(n int64) bool { return shape.Beats(uint8(rate), n) }
		if beats(0) != (period > 0) || beats(math.MinInt64) != (period > 0 && period&(period-1) == 0) {
			t.Errorf("Beats(%d) at 0: %v; at -2^63: %v", rate, beats(0), beats(math.MinInt64))
		}
		for n := int64(1); n < 6200; n++ {
			want := period > 0 && n/period*period == n
			if beats(n) != want || beats(-n) != want {
				t.Fatalf("Beats(%d, %d): %v, below 0: %v, want %v", rate, n, beats(n), beats(-n), want)
			}
		}
		for far := int64(math.MaxInt64 - 4096); far > 0; far++ { // until it is below 0
			if want := period > 0 && far%period == 0; beats(far) != want || beats(-far) != want {
				t.Fatalf("Beats(%d, %d): %v, below 0: %v, want %v", rate, far, beats(far), beats(-far), want)
			}
		}
	}
}

// P15.2: how a shape begins and how it is let go; levels that are none.
func TestOnOff(t *testing.T) {
	if s := shape.On(); s != at(attack, 0) {
		t.Errorf("On: %+v", s)
	}
	for _, phase := range []uint8{0, 1, 2, 3, 4, 99, 255} {
		for level, want := range map[int]int{
			0: 0, 1: 1, 1000: 1000, 2046: 2046, 2047: 2047,
			-1: 0, -9999: 0, math.MinInt: 0, 2048: 2047, 100000: 2047, math.MaxInt: 2047,
		} {
			if got := shape.Off(at(phase, level)); got != at(release, want) {
				t.Errorf("Off of %d, %d: %+v", phase, level, got)
			}
		}
	}
}

// P15.2: in the phase release a shape goes by it, whatever the form says, at each sample.
func TestRelease(t *testing.T) {
	for _, f := range []api.Form{by(0, 0, 0x7f), by(0, 0, 0xff), by(0x7f, 0, 0xdf), by(0xff, 0xff, 0xff), by(0x80, 0, 0)} {
		wantSteps(t,
			step{at(release, 2047), f, 1, at(release, 2039)},
			step{at(release, 9), f, 7, at(release, 1)},
			step{at(release, 8), f, 0, at(release, 0)},
			step{at(release, 7), f, -3, at(release, 0)},
			step{at(release, 0), f, 2, at(release, 0)},
		)
	}
}

// P15.2: the attack's rates, and its end, which does not ask for a beat.
func TestAttack(t *testing.T) {
	wantSteps(t,
		step{at(attack, 100), by(0x80, 0, 0), 2048, at(attack, 132)}, // the rate 1
		step{at(attack, 100), by(0x80, 0, 0), 1024, at(attack, 100)},
		step{at(attack, 100), by(0xf3, 0, 0), 512, at(attack, 132)}, // the rate 7; decay's bits say nothing
		step{at(attack, 100), by(0x83, 0, 0), 511, at(attack, 100)},
		step{at(attack, 100), by(0x8e, 0, 0), 3, at(attack, 132)}, // the rate 29
		step{at(attack, 100), by(0x8e, 0, 0), 4, at(attack, 100)},
		step{at(attack, 100), by(0x8e, 0xff, 0xff), -6, at(attack, 132)},
		step{at(attack, 100), by(0x8f, 0, 0), 4, at(attack, 1124)},
		step{at(attack, 2014), by(0x8e, 0, 0), 3, at(attack, 2046)},
		step{at(attack, 2015), by(0x8e, 0, 0), 3, at(decay, 2047)},
		step{at(attack, 2016), by(0x8e, 0, 0), 3, at(decay, 2047)},
		step{at(attack, 2046), by(0x8e, 0, 0), 4, at(attack, 2046)},
		step{at(attack, 2047), by(0x8e, 0, 0), 4, at(decay, 2047)}, // no beat
		step{at(attack, 1022), by(0x8f, 0, 0), 4, at(attack, 2046)},
		step{at(attack, 1023), by(0x8f, 0, 0), 4, at(decay, 2047)},
		step{at(attack, 2047), by(0x8f, 0xff, 0), 4, at(decay, 2047)}, // not sustain at once
	)
}

// P15.2: the decay's rates, and its end, which does not ask for a beat.
func TestDecay(t *testing.T) {
	wantSteps(t,
		step{at(decay, 2047), by(0x80, 0, 0), 64, at(decay, 2039)}, // the rate 16
		step{at(decay, 2047), by(0x8f, 0, 0), 32, at(decay, 2047)},
		step{at(decay, 2047), by(0x90, 0x1f, 0), 40, at(decay, 2039)}, // the rate 18; sustain's says nothing
		step{at(decay, 2047), by(0x90, 0x1f, 0), 64, at(decay, 2047)},
		step{at(decay, 2047), by(0xf0, 0, 0xff), 2, at(decay, 2039)}, // the rate 30
		step{at(decay, 2047), by(0xf0, 0, 0xff), 3, at(decay, 2047)},
		step{at(decay, 258), by(0xf0, 0, 0), 2, at(sustain, 256)},
		step{at(decay, 259), by(0xf0, 0, 0), 2, at(decay, 257)},
		step{at(decay, 256), by(0xf0, 0, 0), 3, at(sustain, 256)},
		step{at(decay, 257), by(0xf0, 0, 0), 3, at(decay, 257)},
		step{at(decay, 1024), by(0xf0, 0x7f, 0), 3, at(sustain, 1024)},
		step{at(decay, 1025), by(0xf0, 0x7f, 0), 3, at(decay, 1025)},
		step{at(decay, 1792), by(0xf0, 0xdf, 0), 3, at(sustain, 1792)},
		step{at(decay, 1793), by(0xf0, 0xdf, 0), 3, at(decay, 1793)},
		step{at(decay, 2047), by(0xf0, 0xe0, 0), 3, at(sustain, 2047)},
		step{at(decay, 0), by(0xf0, 0, 0), 3, at(sustain, 0)},
	)
}

// P15.2: the sustain's rates; how a level goes down by a part; phases that are none.
func TestSustain(t *testing.T) {
	for _, phase := range []uint8{sustain, 4, 5, 128, 255} {
		wantSteps(t,
			step{at(phase, 1000), by(0x80, 0xe1, 0), 2048, at(phase, 996)},
			step{at(phase, 1000), by(0xff, 0x01, 0xff), 1024, at(phase, 1000)},
			step{at(phase, 1000), by(0x80, 0xfe, 0), 2, at(phase, 996)},
			step{at(phase, 1000), by(0x80, 0xfe, 0), 1, at(phase, 1000)},
			step{at(phase, 1000), by(0x80, 0xe0, 0), 0, at(phase, 1000)}, // no rate
			step{at(phase, 2047), by(0x80, 0x1f, 0), 1, at(phase, 2039)},
			step{at(phase, 1793), by(0x80, 0x1f, 0), 1, at(phase, 1785)},
			step{at(phase, 1792), by(0x80, 0x1f, 0), 1, at(phase, 1785)},
			step{at(phase, 513), by(0x80, 0x1f, 0), 1, at(phase, 510)},
			step{at(phase, 512), by(0x80, 0x1f, 0), 1, at(phase, 510)},
			step{at(phase, 257), by(0x80, 0x1f, 0), 1, at(phase, 255)},
			step{at(phase, 256), by(0x80, 0x1f, 0), 1, at(phase, 255)},
			step{at(phase, 2), by(0x80, 0x1f, 0), 1, at(phase, 1)},
			step{at(phase, 1), by(0x80, 0x1f, 0), 1, at(phase, 0)},
			step{at(phase, 0), by(0x80, 0x1f, 0), 1, at(phase, 0)},
		)
	}
}

// P15.2: by Gain, in each phase but release; the phase stays.
func TestGain(t *testing.T) {
	for _, phase := range []uint8{attack, decay, sustain, 4, 255} {
		wantSteps(t,
			step{at(phase, 2047), by(0, 0, 0), 1, at(phase, 0)},
			step{at(phase, 0), by(0x7f, 0xff, 0x01), -5, at(phase, 16)},
			step{at(phase, 0), by(0, 0, 0x7f), 7, at(phase, 2032)},
			step{at(phase, 1000), by(0, 0, 0x80), 0, at(phase, 1000)}, // no rate
			step{at(phase, 1000), by(0, 0x1f, 0x81), 2048, at(phase, 968)},
			step{at(phase, 1000), by(0, 0x1f, 0x81), 2047, at(phase, 1000)},
			step{at(phase, 31), by(0, 0, 0x9f), 1, at(phase, 0)},
			step{at(phase, 33), by(0, 0, 0x9f), 1, at(phase, 1)},
			step{at(phase, 1000), by(0, 0, 0xbe), 2, at(phase, 996)},
			step{at(phase, 1000), by(0, 0, 0xbe), 3, at(phase, 1000)},
			step{at(phase, 0), by(0, 0, 0xbf), 3, at(phase, 0)},
			step{at(phase, 1000), by(0, 0, 0xdd), 3, at(phase, 1032)},
			step{at(phase, 1000), by(0, 0, 0xdd), 2, at(phase, 1000)},
			step{at(phase, 1536), by(0, 0, 0xdf), 2, at(phase, 1568)},
			step{at(phase, 2016), by(0, 0, 0xdf), 2, at(phase, 2047)},
			step{at(phase, 2015), by(0, 0, 0xdf), 2, at(phase, 2047)},
			step{at(phase, 1000), by(0x7f, 0, 0xfc), 4, at(phase, 1032)},
			step{at(phase, 1000), by(0x7f, 0, 0xfc), 5, at(phase, 1000)},
			step{at(phase, 2039), by(0, 0, 0xff), 2, at(phase, 2047)},
			step{at(phase, 2040), by(0, 0, 0xff), 2, at(phase, 2047)},
			step{at(phase, 2047), by(0, 0, 0xff), 2, at(phase, 2047)},
			step{at(phase, 10), by(0, 0xff, 0xe0), 2, at(phase, 10)},
		)
	}
}

// P15.2: a level that is none is made one ahead of the sample.
func TestLevelsThatAreNone(t *testing.T) {
	for _, level := range []int{2048, 5000, math.MaxInt} {
		wantSteps(t,
			step{at(release, level), by(0, 0, 0), 1, at(release, 2039)},
			step{at(attack, level), by(0x80, 0, 0), 1, at(decay, 2047)},
			step{at(decay, level), by(0xf0, 0, 0), 2, at(decay, 2039)},
			step{at(sustain, level), by(0x80, 0x1f, 0), 2, at(sustain, 2039)},
			step{at(sustain, level), by(0, 0, 0x9f), 2, at(sustain, 2015)},
			step{at(9, level), by(0, 0, 0x80), 2, at(9, 2047)},
		)
	}
	for _, level := range []int{-1, -5000, math.MinInt} {
		wantSteps(t,
			step{at(release, level), by(0, 0, 0), 1, at(release, 0)},
			step{at(attack, level), by(0x8f, 0, 0), 1, at(attack, 1024)},
			step{at(attack, level), by(0x80, 0, 0), 1, at(attack, 0)},
			step{at(decay, level), by(0xf0, 0, 0), 2, at(sustain, 0)},
			step{at(sustain, level), by(0, 0, 0xdf), 2, at(sustain, 32)},
			step{at(9, level), by(0x80, 0x1f, 0), 2, at(9, 0)},
		)
	}
}

// some are the first states that Run tells.
func some(seq iter.Seq[api.Shape], count int) []api.Shape {
	var l []api.Shape
	for s := range seq {
		l = append(l, s)
		if len(l) == count {
			break
		}
	}
	return l
}

// P15.3: each state is Step of the one ahead; beyond 2^63 - 1 the numbers go on at -2^63.
func TestRun(t *testing.T) {
	f := by(0xde, 0x95, 0) // attack by the rate 29, decay by 26, sustain by 21
	for _, n := range []int64{0, 1, -700, 12345, math.MinInt64, math.MaxInt64 - 500, math.MaxInt64} {
		var want []api.Shape
		s, number := shape.On(), n
		for range 2000 {
			s = shape.Step(s, f, number)
			want = append(want, s)
			if number == math.MaxInt64 {
				number = math.MinInt64
			} else {
				number++
			}
		}
		if got := some(shape.Run(shape.On(), f, n), 2000); !slices.Equal(got, want) {
			t.Errorf("Run at %d: other states than Step's", n)
		}
	}
	// 2^63 - 1 is 1 beyond a multiple of 3, -2^63 is 2 ahead of one.
	got := some(shape.Run(at(attack, 0), by(0x8e, 0, 0), math.MaxInt64-1), 5)
	if want := []api.Shape{at(attack, 32), at(attack, 32), at(attack, 32), at(attack, 32), at(attack, 64)}; !slices.Equal(got, want) {
		t.Errorf("Run round the end: %+v, want %+v", got, want)
	}
}

// R6: Run may be left early, gone through again, and twice at one time.
func TestRunAgain(t *testing.T) {
	run := shape.Run(at(release, 100), by(0, 0, 0), 1)
	want := []api.Shape{at(release, 92), at(release, 84), at(release, 76)}
	for range 3 {
		if got := some(run, 3); !slices.Equal(got, want) {
			t.Errorf("Run: %+v, want %+v", got, want)
		}
	}
	one, stopOne := iter.Pull(run)
	defer stopOne()
	other, stopOther := iter.Pull(run)
	defer stopOther()
	for _, x := range want {
		a, _ := one()
		b, _ := other()
		if a != x || b != x {
			t.Errorf("Run twice: %+v and %+v, want %+v", a, b, x)
		}
	}
}

// P15.4: all noises; the bit 15 says nothing.
func TestNoise(t *testing.T) {
	for x := range 32768 {
		want := uint16(x / 2)
		if x%2 != x/2%2 {
			want += 16384
		}
		if a, b := shape.Noise(uint16(x)), shape.Noise(uint16(x+32768)); a != want || b != want {
			t.Fatalf("Noise(%04X): %04X; with the bit 15: %04X; want %04X", x, a, b, want)
		}
	}
}
