package voices_test

import (
	"bytes"
	"math"
	"slices"
	"testing"

	"lanthorn/api"
	"lanthorn/voices"
)

// many are so many samples.
func many(t *testing.T, v *voices.Voices, ram []uint8, n int) []int16 {
	t.Helper()
	l, e := v.Many(ram, n)
	if e != api.OK || len(l) != 2*n {
		t.Fatalf("Many of %d: %d numbers, error %d", n, len(l), e)
	}
	return l
}

// after asks for the sample behind a state, and for the state behind it.
func after(t *testing.T, s saved, ram []uint8) (left, right int, behind saved) {
	t.Helper()
	v := loaded(t, s)
	l, r, e := v.Sample(ram)
	if e != api.OK {
		t.Fatal("Sample: error", e)
	}
	return int(l), int(r), readBack(bodyOf(t, v))
}

// alone is a state in which the voice k is in the sustain, at the level 1024, and heard on the left: what it says is half of what it plays, and is twice turned, by -128 each time.
func alone(k int) saved {
	s := fresh()
	s.regs[0x6c], s.regs[0x0c] = 0x20, 0x80
	s.regs[16*k], s.regs[16*k+7] = 0x80, 0x40
	s.voices[k].phase = 3
	return s
}

// laid is a memory of noughts with rows at some addresses.
func laid(rows map[int][]uint8) []uint8 {
	ram := make([]uint8, 65536)
	for at, row := range rows {
		for i, b := range row {
			ram[(at+i)%65536] = b
		}
	}
	return ram
}

// exampleMemory is the chapter's.
func exampleMemory() []uint8 {
	return laid(map[int][]uint8{0x100: {0, 2, 0, 2}, 0x200: {0xa3, 0x77, 0x77, 0x77, 0x77, 0x77, 0x77, 0x77, 0x77}})
}

// write writes registers, pairs of a register and a byte.
func write(v *voices.Voices, pairs ...uint8) {
	for p := range slices.Chunk(pairs, 2) {
		v.Write(p[0], p[1])
	}
}

func exampleVoices() *voices.Voices {
	v := voices.New()
	write(v, 0x5d, 0x01, 0x00, 0x7f, 0x01, 0x40, 0x02, 0x00, 0x03, 0x10, 0x07, 0x7f, 0x0c, 0x7f, 0x1c, 0x7f, 0x6c, 0x20, 0x4c, 0x01)
	return v
}

// The chapter's examples.
func TestExamples(t *testing.T) {
	v, ram := exampleVoices(), exampleMemory()
	if got, want := many(t, v, ram, 4), []int16{0, 0, 1750, 882, 3500, 1764, 3500, 1764}; !slices.Equal(got, want) {
		t.Errorf("Many of 4: %d, want %d", got, want)
	}
	if got := v.Read(8); got != 0x7f {
		t.Errorf("Read(08): %02X", got)
	}
	many(t, v, ram, 11)
	if got := v.Read(0x7c); got != 0 {
		t.Errorf("Read(7C) behind 15 samples: %02X", got)
	}
	many(t, v, ram, 1)
	if got := v.Read(0x7c); got != 1 {
		t.Errorf("Read(7C) behind 16 samples: %02X", got)
	}
	v.Write(0x6c, 0x40)
	if got := many(t, v, ram, 1); got[0] != 0 || got[1] != 0 {
		t.Error("by 6C 40:", got)
	}
	v.Write(0x6c, 0x20)
	if got := many(t, v, ram, 1); got[0] != 3500 || got[1] != 1764 {
		t.Error("by 6C 20 again:", got)
	}
	v.Write(0x6c, 0x80)
	many(t, v, ram, 1)
	v.Write(0x6c, 0x20)
	if got := many(t, v, ram, 1000); slices.ContainsFunc(got, func(x int16) bool { return x != 0 }) {
		t.Error("by 6C 80, then 20:", got)
	}
	if _, _, e := v.Sample(ram[:65535]); e != api.ErrArg {
		t.Error("Sample of a short memory: error", e)
	}
}

// The chapter's number.
func TestNumber(t *testing.T) {
	if api.ErrVoices != 160 {
		t.Error(api.ErrVoices)
	}
}

// P16.1: at first the flags are E0, the other registers 0; each call makes others.
func TestNew(t *testing.T) {
	v := voices.New()
	write(v, 0x00, 1, 0x4c, 1)
	v = voices.New()
	wantState(t, v, fresh())
	for reg := range 256 {
		want := uint8(0)
		if reg%128 == 0x6c {
			want = 0xe0
		}
		if got := v.Read(uint8(reg)); got != want {
			t.Errorf("register %02X: %02X, want %02X", reg, got, want)
		}
	}
}

// P16.1: what a write of each register changes, of a state whose bytes are unlike.
func TestWrite(t *testing.T) {
	for reg := range 256 {
		for _, b := range []uint8{0, 1, 0x5b, 0x80, 0xff} {
			v, want := loaded(t, unlike()), unlike()
			switch {
			case reg >= 128:
			case reg == 0x7c:
				want.regs[reg] = 0
			case reg == 0x4c:
				want.regs[reg], want.begin = b, b
			default:
				want.regs[reg] = b
			}
			v.Write(uint8(reg), b)
			wantState(t, v, want)
			if reg < 128 && v.Read(uint8(reg)) != want.regs[reg] {
				t.Errorf("register %02X behind %02X: %02X", reg, b, v.Read(uint8(reg)))
			}
		}
	}
}

// R4: nil ones.
func TestNone(t *testing.T) {
	var v *voices.Voices
	v.Write(0x4c, 1)
	if v.Read(0x6c) != 0 {
		t.Error("Read:", v.Read(0x6c))
	}
	for _, ram := range [][]uint8{nil, make([]uint8, 65536)} {
		if l, r, e := v.Sample(ram); l != 0 || r != 0 || e != api.ErrNil {
			t.Error("Sample:", l, r, e)
		}
		for _, n := range []int{-1, 0, 1, api.MaxPlay + 1} {
			if l, e := v.Many(ram, n); l != nil || e != api.ErrNil {
				t.Error("Many:", l, e)
			}
		}
	}
}

// P16.2: what may not be, of several errors the first; nothing has changed.
func TestWrongArguments(t *testing.T) {
	v, good := loaded(t, unlike()), slices.Repeat([]uint8{0xb0}, 65537)
	was := bytes.Clone(good)
	for _, size := range []int{0, 1, 65535, 65537} {
		if l, r, e := v.Sample(good[:size]); l != 0 || r != 0 || e != api.ErrArg {
			t.Errorf("Sample of %d bytes: %d %d, error %d", size, l, r, e)
		}
		for _, n := range []int{math.MinInt, -1, 0, 1, api.MaxPlay, api.MaxPlay + 1, math.MaxInt} {
			if l, e := v.Many(good[:size], n); l != nil || e != api.ErrArg {
				t.Errorf("Many of %d on %d bytes: %d numbers, error %d", n, size, len(l), e)
			}
		}
	}
	for n, want := range map[int]api.Errno{math.MinInt: api.ErrArg, -1: api.ErrArg, api.MaxPlay + 1: api.ErrLarge, math.MaxInt: api.ErrLarge} {
		if l, e := v.Many(good[:65536], n); l != nil || e != want {
			t.Errorf("Many of %d: %d numbers, error %d, want %d", n, len(l), e, want)
		}
	}
	wantState(t, v, unlike())
	if l := many(t, v, good[:65536], 0); len(l) != 0 {
		t.Error("Many of 0:", l)
	}
	wantState(t, v, unlike())
	if !bytes.Equal(good, was) {
		t.Error("the memory has changed")
	}
}

// P16.2: as many samples as may be are made.
func TestMostSamples(t *testing.T) {
	v, ram := exampleVoices(), exampleMemory()
	l := many(t, v, ram, api.MaxPlay)
	if n := len(l); l[n-2] != 3500 || l[n-1] != 1764 {
		t.Error("the last one:", l[n-2:])
	}
	if n := readBack(bodyOf(t, v)).number; n != api.MaxPlay {
		t.Error("its number:", n)
	}
}

// P16.2, R3: the memory ends where it ends, though the list goes on; it is not kept; what Many answers is the caller's.
func TestMemoryIsNotKept(t *testing.T) {
	long := slices.Repeat([]uint8{0xb0}, 65536+64)
	ram := long[:65536]
	s := alone(0)
	s.regs[0x6c], s.regs[0x6d], s.regs[0x7d], s.regs[0x5d] = 0, 0xff, 15, 0xff
	s.regs[4], s.regs[3], s.begin = 0xff, 0x3f, 1
	ram[0x2fc], ram[0x2fd] = 0xfc, 0xff
	v := loaded(t, s)
	l := many(t, v, ram, 300)
	if !bytes.Equal(long[65536:], slices.Repeat([]uint8{0xb0}, 64)) {
		t.Error("what is behind the memory's end has changed")
	}
	clear(ram)
	state := bodyOf(t, v)
	clear(l[:cap(l)])
	if got := bodyOf(t, v); !bytes.Equal(got, state) {
		t.Error("the state has changed")
	}
	if l, r, e := v.Sample(make([]uint8, 65536)); e != api.OK {
		t.Error("on another memory:", l, r, e)
	}
}

// P16.2: voices that were told to begin do so with the next sample, once; what was told last counts.
func TestBegin(t *testing.T) {
	ram := laid(map[int][]uint8{
		0x300 + 4*0x21: {0x00, 0x40, 0x00, 0x50}, 0x300 + 4*0x07: {0x34, 0x12, 0x00, 0x50},
		0x4000: {0xb3, 0x12, 0, 0, 0, 0, 0, 0, 0xf0}, 0x1234: {0x46, 0x7f}, 0x5000: {0xff},
	})
	s := unlike()
	s.regs = [128]uint8{0x5d: 3, 0x4c: 0x81, 0x6c: 0x60, 0x7c: 0xff, 0x04: 0x21, 0x74: 0x07, 0x03: 0x02, 0x73: 0x3f, 0x72: 0xff}
	for k := range 8 {
		s.regs[16*k+5] = 0x8f
	}
	s.begin = 0x81
	_, _, got := after(t, s, ram)
	first := savedVoice{block: 0x4000, head: 0xb3, place: 0x0200, phase: 1, level: 1024, line: [18]int16{2: 1024, 3: 2048, 16: -1024}}
	last := savedVoice{block: 0x1234, head: 0x46, place: 0x3fff, phase: 1, level: 1024, line: [18]int16{2: 56, 3: 56*15/16 - 8}}
	for i := 4; i < 18; i++ {
		last.line[i] = int16(by(int(last.line[i-1])*15, 16))
	}
	if got.voices[0] != first || got.voices[7] != last {
		t.Errorf("%+v, want %+v; %+v, want %+v", got.voices[0], first, got.voices[7], last)
	}
	if got.voices[1].block != s.voices[1].block || got.voices[1].line != s.voices[1].line || got.begin != 0 || got.regs[0x4c] != 0x81 || got.regs[0x7c] != 0x7e {
		t.Errorf("4C %02X, 7C %02X, to begin %02X, the voice 1 %+v", got.regs[0x4c], got.regs[0x7c], got.begin, got.voices[1])
	}
	v := loaded(t, got)
	many(t, v, ram, 1)
	if again := readBack(bodyOf(t, v)).voices[0]; again.place != 0x0400 || again.level != 2047 {
		t.Errorf("behind the next sample: %+v", again)
	}
	write(v, 0x4c, 0xff, 0x4c, 0x01)
	many(t, v, ram, 1)
	if c := readBack(bodyOf(t, v)).voices; c[0].place != 0x0200 || c[7].block != 0x1234 || c[1].block != s.voices[1].block {
		t.Errorf("told twice: %+v", c)
	}
}

// P16.2: the directory, a block and its words come round the memory's end.
func TestMemoryComesRound(t *testing.T) {
	s := alone(3)
	s.begin, s.regs[0x5d], s.regs[0x34] = 8, 0xff, 0xff
	ram := laid(map[int][]uint8{0x2fc: {0xfd, 0xff}, 0xfffd: {0x10, 0x12, 0x34, 0x56, 0x78, 0x9a, 0xbc, 0xde, 0xf1}})
	_, _, got := after(t, s, ram)
	c := got.voices[3]
	if want := [18]int16{0, 0, 1, 2, 3, 4, 5, 6, 7, -8, -7, -6, -5, -4, -3, -2, -1, 1}; c.block != 0xfffd || c.head != 0x10 || c.line != want {
		t.Errorf("%+v, want %d", c, want)
	}
	s.regs[0x5d], s.regs[0x34] = 0xfc, 0xff // the entry's second word stands at FFFE and FFFF
	s.begin, s.voices[3].place, s.voices[3].head, s.regs[0x33] = 0, 0xfff0, 3, 1
	ram = laid(map[int][]uint8{0xfffe: {0xff, 0xff}, 0xffff: {0xff, 0x11}})
	if _, _, got := after(t, s, ram); got.voices[3].block != 0xffff || got.voices[3].head != 0xff || got.voices[3].line[2] != 0 {
		t.Errorf("gone round: %+v", got.voices[3])
	}
}

// P16.2: voices that are let go are so as long as their bit is set, those that have just begun, too; and all are still as long as the flags say so.
func TestLetGoAndStill(t *testing.T) {
	s := alone(0)
	for k := range s.voices {
		s.voices[k].phase, s.voices[k].level = 3, uint16(1000+k)
		s.regs[16*k+5], s.regs[16*k+6] = 0x8f, 0
	}
	s.regs[0x5c], s.begin = 0x85, 0x03
	_, _, got := after(t, s, make([]uint8, 65536))
	for k, want := range []savedVoice{{phase: 0, level: 0}, {phase: 1, level: 1024}, {phase: 0, level: 994}, {phase: 3, level: 1003}, 7: {phase: 0, level: 999}} {
		if c := got.voices[k]; want.phase+uint8(want.level) > 0 && (c.phase != want.phase || c.level != want.level) {
			t.Errorf("let go: the voice %d: phase %d, level %d, want %+v", k, c.phase, c.level, want)
		}
	}
	if c := got.voices[0]; c.phase != 0 || c.level != 0 {
		t.Errorf("let go as it begins: %+v", c)
	}
	v := loaded(t, got)
	v.Write(0x4c, 1)
	for range 3 { // its bit is set still
		many(t, v, make([]uint8, 65536), 1)
		if c := readBack(bodyOf(t, v)).voices[0]; c.phase != 0 || c.level != 0 {
			t.Errorf("let go still: %+v", c)
		}
	}
	s.regs[0x6c] = 0xa0
	left, right, got := after(t, s, make([]uint8, 65536))
	for k, c := range got.voices {
		if c.phase != 0 || c.level != 0 || got.regs[16*k+8] != 0 {
			t.Errorf("still: the voice %d: %+v", k, c)
		}
	}
	if left != 0 || right != 0 || got.begin != 0 {
		t.Error("still:", left, right, got.begin)
	}
}

// P16.2: a voice's step, bent by what the voice ahead says at the same sample.
func TestSteps(t *testing.T) {
	for _, x := range []struct {
		k         int
		low, high uint8
		bend      uint8
		noise     uint16
		gain      uint8 // the voice ahead's
		want      uint16
	}{
		{1, 0x34, 0x12, 0x00, 0x2000, 0x40, 0x1234},
		{1, 0x34, 0xd2, 0xfd, 0x2000, 0x40, 0x1234},
		{1, 0x00, 0x10, 0x02, 0x2000, 0x40, 0x1400}, // 8192 by 32 is 256
		{1, 0x00, 0x10, 0x02, 0x6000, 0x40, 0x0c00}, // -8192
		{1, 0x00, 0x10, 0x02, 0x7fff, 0x40, 0x0ffc}, // -1 by 32 is -1
		{1, 0x01, 0x00, 0x02, 0x7fff, 0x40, 0x0000}, // -1 by 1024 is -1
		{1, 0x03, 0x00, 0x02, 0x2000, 0x40, 0x0003}, // 768 by 1024 is 0
		{1, 0x04, 0x00, 0x02, 0x2000, 0x40, 0x0005},
		{1, 0xff, 0x3f, 0x02, 0x2000, 0x40, 0x3fff},
		{1, 0x00, 0x30, 0x02, 0x3fff, 0x7f, 0x3fff},
		{1, 0xff, 0x3f, 0x02, 0x4000, 0x7f, 0x007f}, // -32512 by 32 is -1016
		{2, 0x00, 0x10, 0x04, 0x2000, 0x40, 0x1400},
		{7, 0x00, 0x10, 0xff, 0x2000, 0x20, 0x1200},
		{0, 0x00, 0x10, 0xff, 0x2000, 0x40, 0x1000},
	} {
		s := alone(x.k)
		s.noise, s.regs[0x2d] = x.noise, x.bend
		s.regs[16*x.k+2], s.regs[16*x.k+3] = x.low, x.high
		if ahead := x.k - 1; ahead >= 0 {
			s.regs[16*ahead+7], s.voices[ahead].phase, s.regs[0x3d] = x.gain, 3, 1<<ahead
		} else {
			s.regs[0x3d] = 0x80
			s.regs[0x77], s.voices[7].phase = 0x7f, 3
		}
		if _, _, got := after(t, s, make([]uint8, 65536)); got.voices[x.k].place != x.want {
			t.Errorf("%+v: %04X", x, got.voices[x.k].place)
		}
	}
}

// P16.2: a voice bends by all of what the voice ahead says, not by what its register keeps of it, and not by its loudness.
func TestBendsByAll(t *testing.T) {
	s := alone(0)
	s.regs[0x00], s.noise, s.regs[0x3d], s.regs[0x2d] = 0, 96, 1, 2 // it says 96, by 32 is 3
	s.regs[0x13] = 0x10
	if _, _, got := after(t, s, make([]uint8, 65536)); got.voices[1].place != 0x100c || got.regs[9] != 0 {
		t.Errorf("place %04X, register 09 %02X", got.voices[1].place, got.regs[9])
	}
}

// P16.2: what a voice plays between three samples, rounded down.
func TestTone(t *testing.T) {
	for _, x := range []struct {
		place uint16
		line  map[int]int16
		want  int // half of it, rounded down
	}{
		{0x0000, map[int]int16{0: 1000, 1: 2000, 2: 4000}, 750},
		{0x000f, map[int]int16{0: 1000, 1: 2000, 2: 4000}, 750},
		{0x0800, map[int]int16{0: 1000, 1: 2000, 2: 4000}, 1062},
		{0x0010, map[int]int16{0: 2000, 1: -2000, 2: 30000}, -8}, // 32512, 33024 and 0 of 65536
		{0x0020, map[int]int16{2: 32767}, 0},                     // 2 of 65536
		{0x0080, map[int]int16{2: 32767}, 7},                     // 32 of 65536
		{0x1000, map[int]int16{0: 32767, 1: 1000, 2: 2000, 3: 4000}, 750},
		{0x0fff, map[int]int16{0: -30000, 1: 20000, 2: -20000}, 78},
		{0xfff0, map[int]int16{15: 30000, 16: 20000, 17: -20000}, 78},
		{0xffff, map[int]int16{15: 30000, 16: 20000, 17: -20000}, 78},
		{0xf800, map[int]int16{15: -32768, 16: -32768, 17: -32768}, -16384},
		{0x5550, map[int]int16{5: 32767, 6: 32767, 7: 32767}, 16383},
		{0x0000, map[int]int16{0: -1}, -1},
	} {
		s := alone(5)
		s.voices[5].place = x.place
		for i, v := range x.line {
			s.voices[5].line[i] = v
		}
		left, right, got := after(t, s, make([]uint8, 65536))
		if left != x.want || right != 0 || got.voices[5] != of(s, func(s *saved) { s.voices[5].level = 1024 }).voices[5] {
			t.Errorf("at %04X of %v: %d %d, want %d", x.place, x.line, left, right, x.want)
		}
		if got.regs[0x58] != 64 || int(int8(got.regs[0x59])) != by(x.want, 256) {
			t.Errorf("at %04X of %v: the registers 58 and 59: %02X %02X", x.place, x.line, got.regs[0x58], got.regs[0x59])
		}
	}
}

// P16.2: noise, which goes on where its rate beats, ahead of what says it.
func TestNoise(t *testing.T) {
	for _, x := range []struct {
		number int64 // of the sample ahead
		flags  uint8
		noise  uint16
		behind uint16
		want   int // half of what it plays
	}{
		{0, 0x20, 0x4000, 0x4000, -16384},
		{0, 0x20, 0x3fff, 0x3fff, 16383},
		{0, 0x20, 0x7fff, 0x7fff, -1},
		{0, 0x3f, 0x4000, 0x2000, 8192},
		{0, 0x3f, 0x0001, 0x4000, -16384},
		{0, 0x3e, 0x0002, 0x0002, 2}, // it beats at 2
		{1, 0x3e, 0x0002, 0x4001, -16383},
		{2046, 0x21, 0x4000, 0x4000, -16384}, // it beats at 2048
		{2047, 0x21, 0x4000, 0x2000, 8192},
		{-1, 0x21, 0x4000, 0x2000, 8192},
		{math.MaxInt64, 0x21, 0x4000, 0x2000, 8192}, // behind it comes -2^63
		{math.MaxInt64 - 1, 0x21, 0x4000, 0x4000, -16384},
	} {
		s := alone(2)
		s.regs[0x3d], s.regs[0x6c] = 0x04, x.flags
		s.number, s.noise = x.number, x.noise
		left, _, got := after(t, s, make([]uint8, 65536))
		if left != x.want || got.noise != x.behind || got.number != x.number+1 {
			t.Errorf("%+v: %d, number %d, noise %04X", x, left, got.number, got.noise)
		}
	}
}

// P16.2: each of a voice's three bytes shapes it, by the sample's number.
func TestShapes(t *testing.T) {
	for _, x := range []struct {
		attack, sustain, gain uint8
		number                int64
		phase                 uint8
		level                 uint16
	}{
		{0x00, 0x00, 0x7f, 0, 3, 2032},
		{0x80, 0x1f, 0x7f, 0, 3, 996},
		{0x80, 0x1e, 0x7f, 0, 3, 1000},
		{0x80, 0x1e, 0x7f, 1, 3, 996},
		{0x00, 0x1f, 0x9f, 5, 3, 968},
		{0x00, 0x1f, 0x9e, 5, 3, 968},
		{0x00, 0x1f, 0x9e, 6, 3, 1000},
	} {
		s := alone(6)
		s.regs[0x65], s.regs[0x66], s.regs[0x67] = x.attack, x.sustain, x.gain
		s.number, s.voices[6].level = x.number, 1000
		_, _, got := after(t, s, make([]uint8, 65536))
		if c := got.voices[6]; c.phase != x.phase || c.level != x.level || got.regs[0x68] != uint8(x.level/16) {
			t.Errorf("%+v: %+v, register 68 %02X", x, c, got.regs[0x68])
		}
	}
}

// loudNoise is a state in which the voices of a set say 16256, as noise.
func loudNoise(set uint8) saved {
	s := fresh()
	s.regs[0x6c], s.regs[0x0c], s.regs[0x1c], s.regs[0x3d], s.noise = 0x20, 0x7f, 0x80, set, 0x2000
	for k := range s.voices {
		if set>>k&1 == 1 {
			s.regs[16*k+7], s.voices[k].phase = 0x7f, 3
		}
	}
	return s
}

// P16.2: the mix, clamped behind each voice, on either side.
func TestMix(t *testing.T) {
	s := loudNoise(0x0f)
	for k, loud := range [][2]uint8{{0x7f, 0x80}, {0x7f, 0x80}, {0x7f, 0x80}, {0x80, 0x40}} {
		s.regs[16*k], s.regs[16*k+1] = loud[0], loud[1]
	}
	// left: three times 16129, clamped, less 16256, times 127 by 128; right: three times -16256, clamped, and 8128, turned
	if left, right, _ := after(t, s, make([]uint8, 65536)); left != 16382 || right != 24640 {
		t.Error("clamped behind each voice:", left, right)
	}
	s = loudNoise(0x20)
	s.regs[0x50], s.regs[0x51], s.regs[0x0c] = 0x01, 0xff, 0xff
	// left: 127, times -1 by 128 is -1; right: -127, turned
	if left, right, _ := after(t, s, make([]uint8, 65536)); left != -1 || right != 127 {
		t.Error("rounded down:", left, right)
	}
	s = loudNoise(0xff)
	for k := range 8 {
		s.regs[16*k], s.regs[16*k+1] = 0x80, 0x80
	}
	s.regs[0x0c] = 0x80
	if left, right, _ := after(t, s, make([]uint8, 65536)); left != 32767 || right != 32767 {
		t.Error("clamped at the end:", left, right)
	}
}

// P16.2: the echo is the last eight pairs in the memory, by their weights, the oldest one first.
func TestEchoIsHeard(t *testing.T) {
	row := [16]int16{}
	for i := range row {
		row[i] = int16(2000*i - 16000)
	}
	for i := range 8 {
		s := fresh()
		s.row, s.regs[0x6c], s.regs[0x6d], s.place = row, 0x20, 0x12, 0x34
		s.regs[16*i+0x0f], s.regs[0x2c], s.regs[0x3c], s.regs[0x7d] = 0x40, 0x80, 0x40, 1
		ram := laid(map[int][]uint8{0x1234: {0x50, 0x46, 0xe8, 0x83}}) // 18000, -31768
		was := bytes.Clone(ram)
		left, right, got := after(t, s, ram)
		want := append(slices.Clone(row[2:]), 18000, -31768)
		if left != -int(want[2*i])/2 || right != int(want[2*i+1])/4 || !slices.Equal(got.row[:], want) || got.place != 0x38 || !bytes.Equal(ram, was) {
			t.Errorf("the weight %d: %d %d, the row %d, the place %04X", i, left, right, got.row, got.place)
		}
	}
}

// P16.2: each of the echo's eight is rounded down by itself; their sum is clamped, and so is the sample.
func TestEchoIsClamped(t *testing.T) {
	for _, x := range []struct {
		each, weight, loud uint8
		want               int
	}{
		{0xff, 0x01, 0x80, 8}, // eight times -1
		{0x01, 0x01, 0x80, 0},
		{0x01, 0xff, 0x80, 8},
		{0x7f, 0x7f, 0x80, -32767},
		{0x80, 0x7f, 0x80, 32767},
		{0x80, 0x80, 0x7f, 32511},
		{0x7f, 0x7f, 0x40, 16383},
		{0x7f, 0x80, 0x40, -16384},
	} {
		s := fresh()
		s.regs[0x6c], s.regs[0x2c] = 0x20, x.loud
		sample := int16(int8(x.each)) // of the edges the greatest and the least
		if x.each == 0x7f {
			sample = 32767
		} else if x.each == 0x80 {
			sample = -32768
		}
		for i := range 8 {
			s.row[2*i], s.regs[16*i+0x0f] = sample, x.weight
		}
		ram := laid(map[int][]uint8{0: words([]int16{sample})})
		if left, right, _ := after(t, s, ram); left != x.want || right != 0 {
			t.Errorf("%+v: %d %d", x, left, right)
		}
	}
	s := loudNoise(3)
	s.regs[0x00], s.regs[0x10], s.regs[0x2c], s.regs[0x3c] = 0x7f, 0x7f, 0x7f, 0x7f
	s.regs[0x01], s.regs[0x11] = 0x7f, 0x7f
	s.regs[0x7f] = 0x7f
	ram := laid(map[int][]uint8{0: words([]int16{32767, -32768})})
	// the mix is 32258 on either side, the echo 32511 and -32512
	if left, right, _ := after(t, s, ram); left != 32767 || right != -32768 {
		t.Error("the sample:", left, right)
	}
}

// P16.2: what is in the echo, and the echo by the feedback, is written to the memory, unless the flags say that it stays.
func TestEchoIsWritten(t *testing.T) {
	for _, x := range []struct {
		flags, in, feedback uint8
		want                [2]int16
	}{
		{0x20, 0x03, 0x40, [2]int16{1000, -2000}},
		{0x00, 0x00, 0x00, [2]int16{0, 0}},
		{0x00, 0x00, 0x40, [2]int16{250, -500}},
		{0x00, 0x00, 0x80, [2]int16{-500, 1000}},
		{0x00, 0x00, 0x01, [2]int16{3, -8}},
		{0x00, 0x01, 0x00, [2]int16{16129, 127}},
		{0x00, 0x02, 0x00, [2]int16{-16256, 127}},
		{0x00, 0x03, 0x40, [2]int16{-127 + 250, 254 - 500}},
		{0x00, 0xfc, 0x40, [2]int16{250, -500}},
		{0x40, 0x01, 0x40, [2]int16{16129 + 250, 127 - 500}},
	} {
		s := loudNoise(3)
		s.regs[0x00], s.regs[0x01], s.regs[0x10], s.regs[0x11] = 0x7f, 0x01, 0x80, 0x01
		s.regs[0x0c], s.regs[0x1c], s.regs[0x2c], s.regs[0x7f] = 0, 0, 0x7f, 0x40
		s.regs[0x6c], s.regs[0x4d], s.regs[0x0d], s.regs[0x6d] = x.flags, x.in, x.feedback, 0x40
		ram := laid(map[int][]uint8{0x4000: words([]int16{1000, -2000})})
		want := laid(map[int][]uint8{0x4000: words(x.want[:])})
		left, _, _ := after(t, s, ram)
		if !bytes.Equal(ram, want) {
			t.Errorf("%+v: % X", x, ram[0x4000:0x4004])
		}
		if heard := x.flags&0x40 == 0; heard && left != 496 || !heard && left != 0 { // 500 times 127 by 128
			t.Errorf("%+v: %d", x, left)
		}
	}
}

// P16.2: what is in the echo is clamped behind each voice, and with the feedback.
func TestEchoMixIsClamped(t *testing.T) {
	s := loudNoise(0x0f)
	for k, loud := range [][2]uint8{{0x7f, 0x80}, {0x7f, 0x80}, {0x7f, 0x80}, {0x80, 0x40}} {
		s.regs[16*k], s.regs[16*k+1] = loud[0], loud[1]
	}
	s.regs[0x6c], s.regs[0x4d] = 0, 0x0f
	ram := make([]uint8, 65536)
	after(t, s, ram)
	if want := words([]int16{32767 - 16256, -32768 + 8128}); !bytes.Equal(ram[:4], want) {
		t.Errorf("% X, want % X", ram[:4], want)
	}
	s.regs[0x4d], s.regs[0x0d], s.regs[0x7f] = 0x03, 0x80, 0x7f
	ram = laid(map[int][]uint8{0: words([]int16{-32768, 32767})})
	after(t, s, ram)
	if want := words([]int16{32767, -32768}); !bytes.Equal(ram[:4], want) {
		t.Errorf("with the feedback: % X, want % X", ram[:4], want)
	}
}

// P16.2: the echo's place goes on by 4, up to the echo's length; its addresses come round the memory's end.
func TestEchoPlace(t *testing.T) {
	for _, x := range []struct {
		length      uint8
		place, want uint16
	}{
		{0x00, 0, 0}, {0xf0, 0, 0}, {0x00, 4, 0}, {0x01, 0, 4}, {0x01, 2040, 2044}, {0x01, 2044, 0}, {0xf1, 2044, 0},
		{0x02, 2044, 2048}, {0x02, 4092, 0}, {0x01, 30716, 0}, {0x0f, 30712, 30716}, {0x0f, 30716, 0}, {0x1e, 28668, 0}, {0x0e, 28664, 28668},
	} {
		s := fresh()
		s.place, s.regs[0x7d] = x.place, x.length
		if _, _, got := after(t, s, make([]uint8, 65536)); got.place != x.want {
			t.Errorf("length %02X, behind %d: %d, want %d", x.length, x.place, got.place, x.want)
		}
	}
	s := loudNoise(1)
	s.regs[0x00], s.regs[0x01], s.regs[0x4d], s.regs[0x6c] = 0x40, 0xc0, 1, 0
	s.regs[0x6d], s.regs[0x7d], s.place = 0xff, 1, 0xfc
	ram, v := make([]uint8, 65536), loaded(t, s)
	many(t, v, ram, 2)
	pair := words([]int16{8128, -8128})
	if want := laid(map[int][]uint8{0xfffc: slices.Concat(pair, pair)}); !bytes.Equal(ram, want) {
		t.Errorf("% X, % X, want % X twice", ram[0xfffc:], ram[:4], pair)
	}
}

// P16.2: a voice comes to the end of its block.
func TestBlockEnds(t *testing.T) {
	ram := laid(map[int][]uint8{
		0x2009: {0x40, 0x12, 0x34, 0x56, 0x70}, 0x3000: {0x43, 0x76}, 0x0004: {0x41, 0x22},
		0x2000: {0x43}, // what the voice came to is not read again
		0x0500: {0x00, 0x20, 0x00, 0x30},
	})
	line := [18]int16{15: 7, 16: 300, 17: -400}
	next := savedVoice{block: 0x2009, head: 0x40, phase: 3, level: 1024, line: [18]int16{300, -400, 8, 16, 24, 32, 40, 48, 56}}
	round := savedVoice{block: 0x3000, head: 0x43, phase: 3, level: 1024, line: [18]int16{300, -400, 56, 48}}
	for _, x := range []struct {
		head  uint8
		place uint16
		step  uint16
		block uint16
		want  savedVoice
		at    uint16 // the place behind
		ended uint8
	}{
		{0x00, 0xf000, 0x1000, 0x2000, next, 0, 0},
		{0xfc, 0xf000, 0x1001, 0x2000, next, 1, 0},
		{0x02, 0xffff, 0x3fff, 0x2000, next, 0x3ffe, 0},
		{0x03, 0xf000, 0x1000, 0x2000, round, 0, 0x10},
		{0xff, 0xffff, 0x0001, 0x2000, round, 0, 0x10},
		{0x01, 0xf000, 0x1234, 0x2000, of(saved{}, func(s *saved) { s.voices[0] = round; s.voices[0].phase, s.voices[0].level = 0, 0 }).voices[0], 0x234, 0x10},
		{0x00, 0xf000, 0x0fff, 0x2000, savedVoice{block: 0x2000, phase: 3, level: 1024, line: line}, 0xffff, 0},
		{0x03, 0xffff, 0x0000, 0x2000, savedVoice{block: 0x2000, head: 3, phase: 3, level: 1024, line: line}, 0xffff, 0},
		{0x00, 0xf000, 0x1000, 0xfffb, savedVoice{block: 4, head: 0x41, phase: 3, level: 1024, line: [18]int16{300, -400, 16, 16}}, 0, 0},
	} {
		s := alone(4)
		s.regs[0x42], s.regs[0x43], s.regs[0x5d] = uint8(x.step), uint8(x.step>>8), 5
		s.voices[4] = savedVoice{block: x.block, head: x.head, place: x.place, phase: 3, line: line}
		x.want.place = x.at
		_, _, got := after(t, s, ram)
		if got.voices[4] != x.want || got.regs[0x7c] != x.ended {
			t.Errorf("head %02X, at %04X, step %04X: 7C is %02X, %+v, want %+v", x.head, x.place, x.step, got.regs[0x7c], got.voices[4], x.want)
		}
	}
}

// P16.2: what came to an end stays so till it begins again, or the register is written; a voice that ended is heard till its end.
func TestEnded(t *testing.T) {
	v, ram := exampleVoices(), exampleMemory()
	ram[0x200] = 0xa1 // it doesn't go round
	l := many(t, v, ram, 16)
	if l[30] != 3500 || v.Read(0x7c) != 1 || v.Read(8) != 0x7f {
		t.Errorf("behind 16 samples: %d, 7C %02X, 08 %02X", l[30], v.Read(0x7c), v.Read(8))
	}
	if l := many(t, v, ram, 40); slices.Max(l) != 0 || v.Read(0x7c) != 1 || v.Read(8) != 0 {
		t.Errorf("behind its end: %d, 7C %02X, 08 %02X", l, v.Read(0x7c), v.Read(8))
	}
	v.Write(0x7c, 0xff)
	if v.Read(0x7c) != 0 {
		t.Errorf("7C, written: %02X", v.Read(0x7c))
	}
	many(t, v, ram, 16)
	if v.Read(0x7c) != 1 {
		t.Errorf("7C, a block later: %02X", v.Read(0x7c))
	}
	v.Write(0x4c, 1)
	if got := many(t, v, ram, 3); got[0] != 0 || got[2] != 1750 || got[4] != 3500 || v.Read(0x7c) != 0 {
		t.Errorf("begun again: %d, 7C %02X", got, v.Read(0x7c))
	}
}

// R5: unlike voices know nothing of one another.
func TestUnlikeVoices(t *testing.T) {
	v, other := exampleVoices(), voices.New()
	many(t, v, exampleMemory(), 10)
	wantState(t, other, fresh())
	if got := many(t, exampleVoices(), exampleMemory(), 4); got[4] != 3500 {
		t.Error(got)
	}
}
