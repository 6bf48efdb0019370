package voices_test

import (
	"bytes"
	"math"
	"math/rand"
	"slices"
	"testing"

	"lanthorn/api"
	"lanthorn/brr"
	"lanthorn/shape"
	"lanthorn/voices"
)

// The chapter once more: a state as it is saved, and a memory, between two samples.

// by is the n-th part of a number, rounded down.
func by(x, n int) int { return int(math.Floor(float64(x) / float64(n))) }

// clamped is the nearest sample to a number.
func clamped(x int) int {
	if x < -32768 {
		return -32768
	}
	if x > 32767 {
		return 32767
	}
	return x
}

// signed is the number that a byte is.
func signed(b uint8) int {
	if b >= 128 {
		return int(b) - 256
	}
	return int(b)
}

func byteAt(ram []uint8, addr int) int { return int(ram[addr%65536]) }

func wordAt(ram []uint8, addr int) int { return byteAt(ram, addr) + 256*byteAt(ram, addr+1) }

// bit tells whether a number's bit is set.
func bit(x uint8, k int) bool { return int(x)/(1<<k)%2 == 1 }

// reg is the register k of the voice v, or of all voices.
func (s *saved) reg(v, k int) uint8 { return s.regs[16*v+k] }

// entry is a word of a voice's entry of the directory, the number 0 or 1.
func (s *saved) entry(ram []uint8, v, number int) int {
	return wordAt(ram, 256*int(s.reg(5, 0xd))+4*int(s.reg(v, 4))+2*number)
}

// comeTo brings a voice to a block.
func (c *savedVoice) comeTo(ram []uint8, addr int, ahead, last int16) {
	var block []uint8
	for i := range 9 {
		block = append(block, uint8(byteAt(ram, addr+i)))
	}
	samples, _ := brr.Decode(block, last, ahead)
	c.block, c.head = uint16(addr), block[0]
	c.line = [18]int16(append([]int16{ahead, last}, samples...))
}

func (c *savedVoice) shape() api.Shape { return api.Shape{Phase: c.phase, Level: int(c.level)} }

func (c *savedVoice) take(x api.Shape) { c.phase, c.level = x.Phase, uint16(x.Level) }

// ordered is what is done with the voices ahead of a sample.
func (s *saved) ordered(ram []uint8) {
	for v := range s.voices {
		if bit(s.begin, v) {
			c := &s.voices[v]
			c.comeTo(ram, s.entry(ram, v, 0), 0, 0)
			c.place = 0
			c.take(shape.On())
			if bit(s.reg(7, 0xc), v) {
				s.regs[0x7c] -= 1 << v
			}
		}
	}
	s.begin = 0
	for v := range s.voices {
		if bit(s.reg(5, 0xc), v) {
			s.voices[v].take(shape.Off(s.voices[v].shape()))
		}
	}
	if s.reg(6, 0xc) >= 128 {
		for v := range s.voices {
			s.voices[v].take(api.Shape{})
		}
	}
}

// stepOf is a voice's step, the voice ahead having said something.
func (s *saved) stepOf(v, ahead int) int {
	step := int(s.reg(v, 2)) + 256*(int(s.reg(v, 3))%64)
	if v > 0 && bit(s.reg(2, 0xd), v) {
		step += by(step*by(ahead, 32), 1024)
	}
	return max(0, min(step, 0x3fff))
}

// played is what a voice plays.
func (s *saved) played(v int) int {
	if bit(s.reg(3, 0xd), v) {
		if x := 2 * int(s.noise); x >= 0x8000 {
			return x - 0x10000
		}
		return 2 * int(s.noise)
	}
	c := s.voices[v]
	i, f := by(int(c.place), 0x1000), by(int(c.place), 0x10)%0x100
	a, b := by((0x100-f)*(0x100-f), 2), by(f*f, 2)
	return by(int(c.line[i])*a+int(c.line[i+2])*b+int(c.line[i+1])*(0x10000-a-b), 0x10000)
}

// wentOn lets a voice's place go on.
func (s *saved) wentOn(ram []uint8, v, step int) {
	c := &s.voices[v]
	place := int(c.place) + step
	if place < 0x10000 {
		c.place = uint16(place)
		return
	}
	c.place = uint16(place - 0x10000)
	next := int(c.block) + 9
	if bit(c.head, 0) {
		if !bit(s.reg(7, 0xc), v) {
			s.regs[0x7c] += 1 << v
		}
		if !bit(c.head, 1) {
			c.take(api.Shape{})
		}
		next = s.entry(ram, v, 1)
	}
	c.comeTo(ram, next%65536, c.line[16], c.line[17])
}

// echoed is the echo, which is kept in the memory.
func (s *saved) echoed(ram []uint8, left, right int) (int, int) {
	at := 256*int(s.reg(6, 0xd)) + int(s.place)
	s.row = [16]int16(append(slices.Clone(s.row[2:]), int16(wordAt(ram, at)), int16(wordAt(ram, at+2))))
	l, r := 0, 0
	for i := range 8 {
		l += by(int(s.row[2*i])*signed(s.reg(i, 0xf)), 128)
		r += by(int(s.row[2*i+1])*signed(s.reg(i, 0xf)), 128)
	}
	l, r = clamped(l), clamped(r)
	if !bit(s.reg(6, 0xc), 5) {
		feedback := signed(s.reg(0, 0xd))
		back := words([]int16{int16(clamped(left + by(l*feedback, 128))), int16(clamped(right + by(r*feedback, 128)))})
		for i, x := range back {
			ram[(at+i)%65536] = x
		}
	}
	end := 2048 * (int(s.reg(7, 0xd)) % 16)
	if end == 0 {
		end = 4
	}
	s.place += 4
	if int(s.place) >= end {
		s.place = 0
	}
	return l, r
}

// sample is the next sample.
func (s *saved) sample(ram []uint8) (int16, int16) {
	s.number++
	if shape.Beats(s.reg(6, 0xc)%32, s.number) {
		s.noise = shape.Noise(s.noise)
	}
	s.ordered(ram)
	said, left, right, echoLeft, echoRight := 0, 0, 0, 0, 0
	for v := range s.voices {
		c := &s.voices[v]
		step, plays := s.stepOf(v, said), s.played(v)
		c.take(shape.Step(c.shape(), api.Form{Attack: s.reg(v, 5), Sustain: s.reg(v, 6), Gain: s.reg(v, 7)}, s.number))
		said = by(plays*int(c.level), 2048)
		s.regs[16*v+8], s.regs[16*v+9] = uint8(by(int(c.level), 16)), uint8(by(said, 256))
		l, r := by(said*signed(s.reg(v, 0)), 128), by(said*signed(s.reg(v, 1)), 128)
		left, right = clamped(left+l), clamped(right+r)
		if bit(s.reg(4, 0xd), v) {
			echoLeft, echoRight = clamped(echoLeft+l), clamped(echoRight+r)
		}
		s.wentOn(ram, v, step)
	}
	l, r := s.echoed(ram, echoLeft, echoRight)
	if bit(s.reg(6, 0xc), 6) {
		return 0, 0
	}
	l = clamped(by(left*signed(s.reg(0, 0xc)), 128) + by(l*signed(s.reg(2, 0xc)), 128))
	r = clamped(by(right*signed(s.reg(1, 0xc)), 128) + by(r*signed(s.reg(3, 0xc)), 128))
	return int16(l), int16(r)
}

// write writes a register.
func (s *saved) write(reg, b uint8) {
	if reg >= 128 {
		return
	}
	s.regs[reg] = b
	if reg == 0x4c {
		s.begin = b
	}
	if reg == 0x7c {
		s.regs[reg] = 0
	}
}

// some is a byte, often one at an edge.
func some(r *rand.Rand) uint8 {
	if r.Intn(3) == 0 {
		return []uint8{0, 1, 2, 0x0f, 0x10, 0x1f, 0x20, 0x3f, 0x40, 0x7f, 0x80, 0x81, 0xc0, 0xe0, 0xff}[r.Intn(15)]
	}
	return uint8(r.Intn(256))
}

// someSample is a sample, often one at an edge.
func someSample(r *rand.Rand) int16 {
	if r.Intn(3) == 0 {
		return []int16{0, 1, -1, 127, -128, 16384, 32767, -32768}[r.Intn(8)]
	}
	return int16(r.Intn(65536) - 32768)
}

// someMemory is a memory of anything, of loud blocks, or of few that are ends.
func someMemory(r *rand.Rand) []uint8 {
	ram := make([]uint8, 65536)
	r.Read(ram)
	switch r.Intn(3) {
	case 0:
		for i := range ram {
			if r.Intn(4) > 0 {
				ram[i] = 0xb0 + uint8(r.Intn(3))
			}
		}
	case 1:
		for i := range ram {
			ram[i] &^= 1
		}
	}
	return ram
}

// aState is a state that can be.
func aState(r *rand.Rand) saved {
	s := saved{number: int64(r.Uint64()) >> r.Intn(60), noise: uint16(r.Intn(0x8000)), begin: some(r), place: uint16(4 * r.Intn(7680))}
	for i := range s.regs {
		s.regs[i] = some(r)
	}
	if r.Intn(2) == 0 { // something is heard
		s.regs[0x6c] &= 0x3f
	}
	if r.Intn(2) == 0 {
		s.regs[0x5c] = 0
	}
	for i := range s.row {
		s.row[i] = someSample(r)
	}
	for k := range s.voices {
		c := savedVoice{block: uint16(r.Intn(65536)), head: some(r), place: uint16(r.Intn(65536)), phase: uint8(r.Intn(4)), level: uint16(r.Intn(2048))}
		if r.Intn(4) == 0 {
			c.place, c.level = uint16(some(r))<<8, 2047
		}
		for i := range c.line {
			c.line[i] = someSample(r)
		}
		s.voices[k] = c
	}
	return s
}

// both are voices and naive ones, over memories that are the same.
type both struct {
	v        *voices.Voices
	s        saved
	ram, own []uint8
}

// sample asks for a sample of both, and that they are the same.
func (x *both) sample(t *testing.T) {
	t.Helper()
	was := x.s
	wantLeft, wantRight := x.s.sample(x.own)
	left, right, e := x.v.Sample(x.ram)
	if left != wantLeft || right != wantRight || e != api.OK {
		t.Fatalf("a sample of %+v: %d %d, error %d, want %d %d", was, left, right, e, wantLeft, wantRight)
	}
}

// same asks that the states and the memories are the same.
func (x *both) same(t *testing.T) {
	t.Helper()
	wantState(t, x.v, x.s)
	if !bytes.Equal(x.ram, x.own) {
		t.Error("the memory is another one")
	}
	if t.Failed() {
		t.FailNow()
	}
}

// P16.2: a sample of any state, over any memory.
func TestSampleAgainstChapter(t *testing.T) {
	r := rand.New(rand.NewSource(163))
	for range 300 {
		ram := someMemory(r)
		for range 20 {
			s := aState(r)
			x := both{loaded(t, s), s, ram, bytes.Clone(ram)}
			for range 1 + r.Intn(4) {
				x.sample(t)
				x.same(t)
			}
		}
	}
}

// deed does something of any kind with both.
func (x *both) deed(t *testing.T, r *rand.Rand) {
	t.Helper()
	switch r.Intn(12) {
	case 0:
		reg, b := uint8(r.Intn(256)), some(r)
		x.v.Write(reg, b)
		x.s.write(reg, b)
	case 1, 2:
		reg, b := []uint8{0x4c, 0x4c, 0x5c, 0x6c, 0x7c, 0x2d, 0x3d, 0x5d, 0x7d}[r.Intn(9)], some(r)
		x.v.Write(reg, b)
		x.s.write(reg, b)
	case 3:
		reg := uint8(r.Intn(256))
		if got := x.v.Read(reg); got != x.s.regs[reg%128] {
			t.Fatalf("register %02X: %02X, want %02X", reg, got, x.s.regs[reg%128])
		}
	case 4: // the program writes to the memory
		at, b := r.Intn(65536), some(r)
		x.ram[at], x.own[at] = b, b
	case 5:
		x.many(t, r.Intn(60))
	default:
		x.sample(t)
	}
}

// many asks for several samples at one time.
func (x *both) many(t *testing.T, n int) {
	t.Helper()
	var want []int16
	for range n {
		left, right := x.s.sample(x.own)
		want = append(want, left, right)
	}
	if got, e := x.v.Many(x.ram, n); !slices.Equal(got, want) || e != api.OK {
		t.Fatalf("Many of %d: %d, error %d, want %d", n, got, e, want)
	}
}

// P16.1 to P16.3: whatever is done with them, they are what the naive ones are, saved and loaded or not.
func TestAnythingIsDone(t *testing.T) {
	r := rand.New(rand.NewSource(164))
	for range 60 {
		ram := someMemory(r)
		x := both{voices.New(), fresh(), ram, bytes.Clone(ram)}
		if r.Intn(2) == 0 {
			x.s = aState(r)
			x.v = loaded(t, x.s)
		}
		for range 300 {
			x.deed(t, r)
			if r.Intn(10) == 0 {
				x.same(t)
				x.v = loaded(t, x.s)
			}
		}
		x.same(t)
	}
}
