package brr_test

import (
	"bytes"
	"math"
	"math/rand"
	"slices"
	"testing"

	"lanthorn/api"
	"lanthorn/brr"
)

// coded is what samples have become behind Encode and Decode.
func coded(t *testing.T, s []int16, last, ahead int16) []int16 {
	t.Helper()
	b, e := brr.Encode(s, last, ahead)
	if e != api.OK {
		t.Fatalf("Encode of %d: error %d", s, e)
	}
	if h := brr.Read(b[0]); h.Loop || h.End || h.Shift > 12 {
		t.Fatalf("Encode of %d, %d, %d: its head is %+v", s, last, ahead, h)
	}
	got, e := brr.Decode(b, last, ahead)
	if e != api.OK {
		t.Fatalf("Decode of % X: error %d", b, e)
	}
	return got
}

// P14.5: All of Pack has as many samples as there are behind the noughts, uses all bytes, does not go round.
func TestAllOfPack(t *testing.T) {
	r := rand.New(rand.NewSource(145))
	for n := range 200 {
		b := brr.Pack(someSamples(r, n))
		s, size, loop, e := brr.All(b)
		if e != api.OK || size != len(b) || loop || len(s) != max(1, (n+15)/16)*16 {
			t.Errorf("All of Pack of %d samples: %d samples of %d bytes, there are %d; %v, error %d", n, len(s), size, len(b), loop, e)
		}
	}
}

// nearestStill is how far the nearest of all blocks with the filter 0 is: of those each nibble is for itself.
func nearestStill(s []int16) float64 {
	least := math.Inf(1)
	for shift := range 13 {
		sum := 0.0
		for _, want := range s {
			best := math.Inf(1)
			for nibble := range 16 {
				d := float64(naiveSample(shift, 0, nibble, 0, 0)) - float64(want)
				best = min(best, d*d)
			}
			sum += best
		}
		least = min(least, sum)
	}
	return least
}

// P14.5: what Encode gives is at most as far as any block with the filter 0.
func TestNearerThanStill(t *testing.T) {
	r := rand.New(rand.NewSource(146))
	for range 5000 {
		s, last, ahead := someSamples(r, 16), edge(r), edge(r)
		if got, most := far(coded(t, s, last, ahead), s), nearestStill(s); got > most {
			t.Fatalf("Encode of %d, %d, %d is %v far, a block with the filter 0 %v", s, last, ahead, got, most)
		}
	}
}

// P14.5: samples that a block with the filter 0 stands for are encoded without a loss, whatever is ahead; silence stays silence.
func TestNothingIsLost(t *testing.T) {
	r := rand.New(rand.NewSource(147))
	for i := range 13 * 1000 {
		block := slices.Concat([]uint8{uint8(i % 13 << 4)}, someBytes(r, 8))
		s, e := brr.Decode(block, edge(r), edge(r))
		if e != api.OK {
			t.Fatal("Decode: error", e)
		}
		if last, ahead := edge(r), edge(r); !slices.Equal(coded(t, s, last, ahead), s) {
			t.Fatalf("Encode of % X, which stands for %d, behind %d, %d: something is lost", block, s, last, ahead)
		}
	}
	silence := make([]int16, 16)
	for range 100 {
		wantEncode(t, silence, edge(r), edge(r), "00 0000000000000000")
	}
	s, _, _, _ := brr.All(brr.Pack(make([]int16, 1000)))
	if !slices.Equal(s, make([]int16, 1008)) {
		t.Error("silence does not stay silence")
	}
}

// R3: what is handed in is not changed, the room behind its end neither, and what is answered is new.
func TestNothingIsShared(t *testing.T) {
	r := rand.New(rand.NewSource(148))
	room := someSamples(r, 48)
	was := slices.Clone(room)
	for n := range 33 {
		b := brr.Pack(room[:n])
		again := bytes.Clone(b)
		_ = append(b, 1, 2, 3)
		clear(b)
		if !bytes.Equal(brr.Pack(room[:n]), again) {
			t.Errorf("Pack of %d samples answers otherwise", n)
		}
	}
	block, e := brr.Encode(room[:16], 3, 4)
	if e != api.OK || !slices.Equal(room, was) {
		t.Error("samples have changed; error", e)
	}
	block[0] |= 1
	b := append(block, 9, 9, 9)
	wasB := bytes.Clone(b)
	one, _ := brr.Decode(b[:9], 0, 0)
	all, _, _, _ := brr.All(b)
	if !slices.Equal(one, all) {
		t.Errorf("Decode: %d, All: %d", one, all)
	}
	clear(one)
	if other, _ := brr.Decode(b[:9], 0, 0); !slices.Equal(other, all) {
		t.Errorf("Decode again: %d, All: %d", other, all)
	}
	clear(all)
	if !bytes.Equal(b, wasB) {
		t.Errorf("bytes have changed: % X, were % X", b, wasB)
	}
}
