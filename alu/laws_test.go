package alu_test

import (
	"testing"

	"lanthorn/alu"
	"lanthorn/api"
)

// P2.4: of all narrow decimal numbers AluAdd and AluSub with D are the school's.
func TestDecimalNarrow(t *testing.T) {
	for a := range 100 {
		for b := range 100 {
			wantDecimal(t, a, b, 100, narrow)
		}
	}
}

// P2.4: so they are of wide ones.
func TestDecimalWide(t *testing.T) {
	for a := 0; a < 10000; a += 13 {
		for b := 0; b < 10000; b += 37 {
			wantDecimal(t, a, b, 10000, wide)
		}
	}
	for _, a := range []int{0, 1, 4999, 5000, 9998, 9999} {
		for b := range 10000 {
			wantDecimal(t, a, b, 10000, wide)
			wantDecimal(t, b, a, 10000, wide)
		}
	}
}

func wantDecimal(t *testing.T, a, b, all int, wide bool) {
	t.Helper()
	x, _ := alu.OfDigits(a, wide)
	y, _ := alu.OfDigits(b, wide)
	for c := range 2 {
		wantSchool(t, api.AluAdd, x, y, c, (a+b+c)%all, a+b+c >= all, wide)
		least := a - b - 1 + c
		wantSchool(t, api.AluSub, x, y, c, (least+all)%all, least >= 0, wide)
	}
}

func wantSchool(t *testing.T, op uint8, x, y uint16, c, want int, carry, wide bool) {
	z, p := do(t, op, x, y, uint8(c)|fD, wide)
	n, ok := alu.Digits(z, wide)
	if n != want || !ok || p&fC != 0 != carry {
		t.Fatalf("operation %d of %x, %x with the carry %d: %x, flags %x, want %d and the carry %v", op, x, y, c, z, p, want, carry)
	}
}

// P2.5: wide sums and differences are the narrow ones of the lower bytes, then of the upper ones.
func TestWideOfNarrow(t *testing.T) {
	for _, op := range []uint8{api.AluAdd, api.AluSub} {
		for n := range 1 << 20 {
			a, b := uint16(n*40503), uint16(n>>3*30011)
			wantHalves(t, op, a, b, flagSets()[n%8])
		}
		for _, a := range edges() {
			for _, b := range edges() {
				for _, p := range flagSets() {
					wantHalves(t, op, a, b, p)
				}
			}
		}
	}
}

func wantHalves(t *testing.T, op uint8, a, b uint16, p uint8) {
	x, q := do(t, op, a, b, p, wide)
	below, mid := do(t, op, a&0xff, b&0xff, p, narrow)
	above, end := do(t, op, a>>8, b>>8, mid, narrow)
	const shared = fN | fV | fC
	if x != above<<8|below || q&shared != end&shared || q&fZ != 0 != (x == 0) {
		t.Fatalf("operation %d of %x, %x, flags %x: %x, flags %x; in halves %x, %x, flags %x", op, a, b, p, x, q, above, below, end)
	}
}

// P2.5: a difference takes back a sum, with D 0.
func TestSubOfAdd(t *testing.T) {
	for c := range uint8(2) {
		for a := range uint16(256) {
			for b := range uint16(256) {
				wantBack(t, a, b, c, narrow)
			}
		}
		for n := range 1 << 20 {
			wantBack(t, uint16(n*40503), uint16(n>>4*30011), c, wide)
		}
	}
}

func wantBack(t *testing.T, a, b uint16, c uint8, wide bool) {
	x, _ := do(t, api.AluAdd, a, b, c, wide)
	if back, _ := do(t, api.AluSub, x, b, 1-c, wide); back != a {
		t.Fatalf("%x and %x with the carry %d: %x, and back %x", a, b, c, x, back)
	}
}

// P2.5: AluRor takes back AluRol, of all numbers.
func TestRorOfRol(t *testing.T) {
	for a := range 1 << 16 {
		for c := range uint8(2) {
			for _, w := range []bool{narrow, wide} {
				if w == narrow && a > 255 {
					continue
				}
				x, p := do(t, api.AluRol, uint16(a), 0, c, w)
				if back, q := do(t, api.AluRor, x, 0, p, w); int(back) != a || q&fC != c {
					t.Fatalf("%x, with the carry %d: %x, and back %x with the flags %x", a, c, x, back, q)
				}
			}
		}
	}
}
