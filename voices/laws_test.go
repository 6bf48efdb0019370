package voices_test

import (
	"bytes"
	"math/rand"
	"slices"
	"testing"

	"lanthorn/api"
	"lanthorn/voices"
)

// P16.4: Many of two numbers is Many of their sum, and one sample after the other.
func TestManyOfSums(t *testing.T) {
	r := rand.New(rand.NewSource(165))
	for range 60 {
		s, ram := aState(r), someMemory(r)
		whole, parts, single := loaded(t, s), loaded(t, s), loaded(t, s)
		ramOfParts, ramOfSingle := bytes.Clone(ram), bytes.Clone(ram)
		a, b := r.Intn(200), r.Intn(200)
		all := many(t, whole, ram, a+b)
		if got := append(many(t, parts, ramOfParts, a), many(t, parts, ramOfParts, b)...); !slices.Equal(got, all) {
			t.Fatalf("Many of %d and of %d is not Many of %d", a, b, a+b)
		}
		var got []int16
		for range a + b {
			left, right, _ := single.Sample(ramOfSingle)
			got = append(got, left, right)
		}
		if !slices.Equal(got, all) {
			t.Fatalf("Sample %d times is not Many", a+b)
		}
		for _, v := range []*voices.Voices{parts, single} {
			if !bytes.Equal(bodyOf(t, v), bodyOf(t, whole)) {
				t.Fatal("the states are unlike")
			}
		}
		if !bytes.Equal(ram, ramOfParts) || !bytes.Equal(ram, ramOfSingle) {
			t.Fatal("the memories are unlike")
		}
	}
}

// P16.4: saved between any two samples, and loaded into others, they go on just so.
func TestSavedGoesOn(t *testing.T) {
	r := rand.New(rand.NewSource(166))
	for range 10 {
		s, ram := aState(r), someMemory(r)
		straight, relay := loaded(t, s), loaded(t, s)
		ramOfRelay := bytes.Clone(ram)
		for range 100 {
			heir := loaded(t, aState(r))
			many(t, heir, bytes.Clone(ram), r.Intn(5))
			if e := heir.Load(reader(t, bodyOf(t, relay))); e != api.OK {
				t.Fatal("Load: error", e)
			}
			many(t, relay, bytes.Clone(ram), 3) // which is nothing to the heir
			relay = heir
			n := r.Intn(40)
			if !slices.Equal(many(t, straight, ram, n), many(t, relay, ramOfRelay, n)) || !bytes.Equal(ram, ramOfRelay) || !bytes.Equal(bodyOf(t, straight), bodyOf(t, relay)) {
				t.Fatal("the heir goes on otherwise")
			}
		}
	}
}

// P16.4: while no voice has begun, and nothing of the echo is heard, all is silent.
func TestSilence(t *testing.T) {
	r := rand.New(rand.NewSource(167))
	for range 30 {
		v, ram := voices.New(), someMemory(r)
		for reg := range uint8(128) {
			if reg != 0x4c && reg != 0x2c && reg != 0x3c {
				v.Write(reg, some(r))
			}
		}
		v.Write(0x6c, some(r)&0x1f)
		for i, x := range many(t, v, ram, 500) {
			if x != 0 {
				t.Fatalf("the sample %d is %d", i/2, x)
			}
		}
	}
}

// like is voices and a memory in which the voice k goes round a block of sixteen like samples.
func like(k, shift, nibble, step, gain int, loud, loudOfMix uint8) (*voices.Voices, []uint8) {
	v, ram := voices.New(), make([]uint8, 65536)
	ram[0x1234] = uint8(shift<<4 | 3)
	copy(ram[0x1235:], slices.Repeat([]uint8{uint8(17 * nibble)}, 8))
	copy(ram[0x0544:], []uint8{0x34, 0x12, 0x34, 0x12})
	for reg, b := range map[int]uint8{
		0x5d: 5, 0x0c: loudOfMix, 0x6c: 0x20, 0x4c: 1 << k,
		16 * k: loud, 16*k + 2: uint8(step), 16*k + 3: uint8(step >> 8), 16*k + 4: 0x11, 16*k + 7: uint8(gain),
	} {
		v.Write(uint8(reg), b)
	}
	return v, ram
}

// P16.5: a voice that goes round a block of sixteen like samples is heard as they are, by its level and all loudnesses, whatever its step is.
func TestLikeSamples(t *testing.T) {
	r := rand.New(rand.NewSource(168))
	steps := []int{1, 0x0f, 0x10, 0x1000, 0x2000, 0x3fff}
	for len(steps) < 400 {
		steps = append(steps, 0x20+r.Intn(0x4000-0x20))
	}
	for _, step := range steps {
		nibble, shift, gain := r.Intn(16), r.Intn(13), r.Intn(128)
		loud, loudOfMix := some(r), some(r)
		v, ram := like(r.Intn(8), shift, nibble, step, gain, loud, loudOfMix)
		x := by(nibble<<shift, 2)
		if nibble >= 8 {
			x = by((nibble-16)<<shift, 2)
		}
		mixed := clamped(by(by(x*16*gain, 2048)*signed(loud), 128))
		want := clamped(by(mixed*signed(loudOfMix), 128))
		for gone := 0; gone < 0x28000; gone += step {
			left, right, _ := v.Sample(ram)
			if gone >= 0x2000 && (int(left) != want || right != 0) {
				t.Fatalf("nibble %d, shift %d, gain %d, loudness %d, the mix's %d, step %04X: %d %d behind %04X, want %d", nibble, shift, gain, signed(loud), signed(loudOfMix), step, left, right, gone, want)
			}
		}
	}
}
