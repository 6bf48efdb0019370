package alu_test

import (
	"math"
	"strconv"
	"testing"

	"lanthorn/alu"
	"lanthorn/api"
)

// The flags by their letters.
const (
	fC = api.FlagC
	fZ = api.FlagZ
	fD = api.FlagD
	fV = api.FlagV
	fN = api.FlagN
)

const (
	narrow = false
	wide   = true
)

// row is a call of Do, and its answer.
type row struct {
	op   uint8
	a, b uint16
	p    uint8
	wide bool
	want uint16
	then uint8
}

func wantRows(t *testing.T, rows []row) {
	t.Helper()
	for _, r := range rows {
		x, p, ok := alu.Do(r.op, r.a, r.b, r.p, r.wide)
		if x != r.want || p != r.then || !ok {
			t.Errorf("Do(%d, %04x, %04x, %02x, %v): %04x, %02x, %v, want %04x, %02x", r.op, r.a, r.b, r.p, r.wide, x, p, ok, r.want, r.then)
		}
	}
}

// do is Do of an operation that there is.
func do(t *testing.T, op uint8, a, b uint16, p uint8, wide bool) (uint16, uint8) {
	x, p, ok := alu.Do(op, a, b, p, wide)
	if !ok {
		t.Fatalf("there is no operation %d", op)
	}
	return x, p
}

// The chapter's examples, in their order.
func TestExamples(t *testing.T) {
	wantRows(t, []row{
		{api.AluAdd, 0x7f, 1, 0, narrow, 0x80, fN | fV},
		{api.AluAdd, 0xff, 1, fC, narrow, 1, fC},
		{api.AluAdd, 0x58, 0x46, fD | fC, narrow, 5, fD | fC | fV},
		{api.AluAdd, 0x9999, 1, fD, wide, 0, fD | fC | fZ},
		{api.AluSub, 0, 1, fD | fC, narrow, 0x99, fD | fN},
		{api.AluSub, 0, 1, fC, narrow, 0xff, fN},
		{api.AluCmp, 5, 6, 0, wide, 5, fN},
		{api.AluBit, 1, 0xc0, 0, narrow, 1, fN | fV | fZ},
		{api.AluRol, 0x80, 0, fC, narrow, 1, fC},
		{api.AluTrb, 0x0f, 0xff, fN, narrow, 0xf0, fN},
	})
	if x, p, ok := alu.Do(17, 1, 2, 3, wide); x != 0 || p != 0 || ok {
		t.Error("Do(17, ..):", x, p, ok)
	}
	wantDigits(t, 0x1234, wide, 1234, true)
	wantDigits(t, 0x1a, narrow, 0, false)
	wantDigits(t, 0x100, narrow, 0, false)
	wantOfDigits(t, 99, narrow, 0x99, true)
	wantOfDigits(t, 100, narrow, 0, false)
	if alu.Extend(0x7f) != 0x7f || alu.Extend(0x80) != 0xff80 {
		t.Errorf("Extend: %x, %x", alu.Extend(0x7f), alu.Extend(0x80))
	}
}

// P2.1: what the operations answer that go bit by bit, or have one number alone.
func TestBits(t *testing.T) {
	wantRows(t, []row{
		{api.AluOr, 0x0c, 0x8a, 0, narrow, 0x8e, fN},
		{api.AluOr, 0, 0, fN, narrow, 0, fZ},
		{api.AluOr, 0x8000, 0x80, 0, wide, 0x8080, fN},
		{api.AluAnd, 0x0c, 0x0a, fZ, narrow, 8, 0},
		{api.AluAnd, 0xff00, 0x00ff, 0, wide, 0, fZ},
		{api.AluXor, 0x0c, 0x8a, fC, narrow, 0x86, fC | fN},
		{api.AluXor, 0x8001, 0x8001, fN, wide, 0, fZ},
		{api.AluLoad, 7, 0x80, 0, narrow, 0x80, fN},
		{api.AluLoad, 7, 0x80, fN | fZ, wide, 0x80, 0},
		{api.AluLoad, 7, 0, fV, wide, 0, fV | fZ},
		{api.AluInc, 0xff, 9, 0, narrow, 0, fZ},
		{api.AluInc, 0xff, 9, 0, wide, 0x100, 0},
		{api.AluInc, 0x7f, 9, fC, narrow, 0x80, fN | fC},
		{api.AluInc, 0xffff, 9, 0, wide, 0, fZ},
		{api.AluDec, 0, 9, 0, narrow, 0xff, fN},
		{api.AluDec, 0, 9, 0, wide, 0xffff, fN},
		{api.AluDec, 1, 9, fN, wide, 0, fZ},
	})
}

// P2.1: numbers that are moved by a bit.
func TestMoves(t *testing.T) {
	wantRows(t, []row{
		{api.AluAsl, 0xc0, 9, fC, narrow, 0x80, fN | fC},
		{api.AluAsl, 0x80, 9, 0, narrow, 0, fC | fZ},
		{api.AluAsl, 0x80, 9, fC, wide, 0x100, 0},
		{api.AluAsl, 0x8000, 9, 0, wide, 0, fC | fZ},
		{api.AluRol, 0x40, 9, 0, narrow, 0x80, fN},
		{api.AluRol, 0x8000, 9, 0, wide, 0, fC | fZ},
		{api.AluRol, 0x8000, 9, fC, wide, 1, fC},
		{api.AluLsr, 0x81, 9, fC | fN, narrow, 0x40, fC},
		{api.AluLsr, 1, 9, fC, wide, 0, fC | fZ},
		{api.AluLsr, 0x8000, 9, fC, wide, 0x4000, 0},
		{api.AluRor, 0x80, 9, fC, narrow, 0xc0, fN},
		{api.AluRor, 0, 9, fC, wide, 0x8000, fN},
		{api.AluRor, 1, 9, 0, narrow, 0, fC | fZ},
	})
}

// P2.1: what AluCmp, the two kinds of AluBit, AluTsb and AluTrb say of two numbers.
func TestComparing(t *testing.T) {
	wantRows(t, []row{
		{api.AluCmp, 6, 5, 0, narrow, 6, fC},
		{api.AluCmp, 5, 5, 0, narrow, 5, fC | fZ},
		{api.AluCmp, 0, 0x80, fC, narrow, 0, fN},
		{api.AluCmp, 0x7f, 0xff, fV, narrow, 0x7f, fV | fN},
		{api.AluCmp, 0, 0xffff, fC, wide, 0, 0},
		{api.AluBit, 0xff, 0x40, fN, narrow, 0xff, fV},
		{api.AluBit, 0xff, 0x80, fV, narrow, 0xff, fN},
		{api.AluBit, 0, 0xc0, 0, wide, 0, fZ},
		{api.AluBit, 3, 0x4001, fN | fZ, wide, 3, fV},
		{api.AluBit, 3, 0x8000, fV, wide, 3, fN | fZ},
		{api.AluBitI, 1, 0xc0, 0, narrow, 1, fZ},
		{api.AluBitI, 1, 1, fN | fV | fZ, narrow, 1, fN | fV},
		{api.AluTsb, 0x0f, 0xf0, 0, narrow, 0xff, fZ},
		{api.AluTsb, 0x8001, 0x0003, fZ, wide, 0x8003, 0},
		{api.AluTrb, 0x0f, 0xf0, 0, narrow, 0xf0, fZ},
		{api.AluTrb, 0xff, 0xff, fN | fZ, narrow, 0, fN},
	})
}

// P2.1: sums and differences, of digits above 9 too.
func TestSums(t *testing.T) {
	wantRows(t, []row{
		{api.AluAdd, 0x80, 0x80, 0, narrow, 0, fC | fV | fZ},
		{api.AluAdd, 0x80, 0x80, 0, wide, 0x100, 0},
		{api.AluAdd, 0x7fff, 0, fC, wide, 0x8000, fN | fV},
		{api.AluAdd, 0xffff, 0xffff, fC | fV, wide, 0xffff, fN | fC},
		{api.AluSub, 5, 5, fC, narrow, 0, fC | fZ},
		{api.AluSub, 5, 5, 0, narrow, 0xff, fN},
		{api.AluSub, 0x80, 1, fC, narrow, 0x7f, fC | fV},
		{api.AluSub, 0x7fff, 0xffff, fC, wide, 0x8000, fN | fV},
		{api.AluAdd, 0x79, 0, fD | fC, narrow, 0x80, fD | fN | fV},
		{api.AluAdd, 0x80, 0x80, fD, narrow, 0x60, fD | fC | fV},
		{api.AluAdd, 0x0f, 0x0f, fD | fC, narrow, 0x15, fD},
		{api.AluAdd, 0xff, 0xff, fD | fC | fV, narrow, 0x55, fD | fC},
		{api.AluAdd, 0x0a, 0, fD, narrow, 0x10, fD},
		{api.AluAdd, 0x0099, 1, fD, wide, 0x100, fD},
		{api.AluSub, 0x50, 1, fD | fC, narrow, 0x49, fD | fC},
		{api.AluSub, 0x80, 1, fD | fC, narrow, 0x79, fD | fC | fV},
		{api.AluSub, 0, 0x0f, fD, narrow, 0x9a, fD | fN},
		{api.AluSub, 0x1000, 1, fD | fC, wide, 0x999, fD | fC},
		{api.AluSub, 0x1234, 0x1234, fD | fC, wide, 0, fD | fC | fZ},
	})
}

// P2.1: of a narrow operation the upper bytes of what is handed in count for nothing.
func TestNarrowIsCut(t *testing.T) {
	for op := range uint8(17) {
		for n := range 1 << 12 {
			a, b := uint16(n>>6*5), uint16(n&63*5)
			x, p := do(t, op, a&0xff, b&0xff, uint8(n), narrow)
			for _, above := range []uint16{0x100, 0xff00, 0x5a00} {
				if y, q := do(t, op, a&0xff|above, b&0xff|^above&0xff00, uint8(n), narrow); y != x || q != p {
					t.Fatalf("operation %d of %x, %x with %x above: %x, %x, want %x, %x", op, a, b, above, y, q, x, p)
				}
			}
		}
	}
}

// P2.1: what is no operation.
func TestNoOperation(t *testing.T) {
	for op := 17; op < 256; op++ {
		for _, w := range []bool{narrow, wide} {
			for _, p := range []uint8{0, fD, 0xff} {
				if x, q, ok := alu.Do(uint8(op), 0xffff, 0xffff, p, w); x != 0 || q != 0 || ok {
					t.Errorf("Do(%d, .., %x, %v): %x, %x, %v", op, p, w, x, q, ok)
				}
			}
		}
	}
}

// P2.1: every operation of all narrow numbers, and of wide ones at the edges, is what the chapter's table says, with every flag that it may ask for, the others 0 or 1.
func TestTable(t *testing.T) {
	t.Run("narrow", func(t *testing.T) {
		t.Parallel()
		wantTable(t, numbersTo(256), narrow)
	})
	t.Run("wide", func(t *testing.T) {
		t.Parallel()
		wantTable(t, edges(), wide)
	})
}

// flagSets are C and D in all ways, the other flags 0, and 1.
func flagSets() []uint8 {
	return []uint8{0, fC, fD, fD | fC, 0xff &^ (fD | fC), 0xff &^ fD, 0xff &^ fC, 0xff}
}

func numbersTo(n int) []uint16 {
	var l []uint16
	for i := range n {
		l = append(l, uint16(i))
	}
	return l
}

// edges are wide numbers of bytes at which something changes.
func edges() []uint16 {
	var l []uint16
	bytes := []uint16{0, 1, 9, 0x0a, 0x3f, 0x40, 0x7f, 0x80, 0x95, 0x99, 0xc5, 0xfe, 0xff}
	for _, above := range bytes {
		for _, below := range bytes {
			l = append(l, above<<8|below)
		}
	}
	return l
}

func wantTable(t *testing.T, numbers []uint16, wide bool) {
	for op := range uint8(17) {
		for _, a := range numbers {
			for _, b := range numbers {
				for _, p := range flagSets() {
					want, then := naive(op, int(a), int(b), p, wide)
					x, q, ok := alu.Do(op, a, b, p, wide)
					if int(x) != want || q != then || !ok {
						t.Fatalf("Do(%d, %x, %x, %x, %v): %x, %x, %v, want %x, %x", op, a, b, p, wide, x, q, ok, want, then)
					}
				}
			}
		}
	}
}

func wantDigits(t *testing.T, x uint16, wide bool, want int, ok bool) {
	t.Helper()
	if n, is := alu.Digits(x, wide); n != want || is != ok {
		t.Errorf("Digits(%x, %v): %d, %v, want %d, %v", x, wide, n, is, want, ok)
	}
}

func wantOfDigits(t *testing.T, n int, wide bool, want uint16, ok bool) {
	t.Helper()
	if x, is := alu.OfDigits(n, wide); x != want || is != ok {
		t.Errorf("OfDigits(%d, %v): %x, %v, want %x, %v", n, wide, x, is, want, ok)
	}
}

// P2.2: Digits of all numbers is what is read when they are written down.
func TestDigits(t *testing.T) {
	for x := range 1 << 16 {
		n, e := strconv.Atoi(strconv.FormatInt(int64(x), 16))
		if e != nil {
			n = 0
		}
		wantDigits(t, uint16(x), wide, n, e == nil)
		if x > 255 {
			n = 0
		}
		wantDigits(t, uint16(x), narrow, n, e == nil && x <= 255)
	}
}

// P2.2: OfDigits of all numbers that have digits, and of some that have none.
func TestOfDigits(t *testing.T) {
	for n := -20000; n <= 100000; n++ {
		x, _ := strconv.ParseUint(strconv.Itoa(max(n, 0)), 16, 64)
		if n > 9999 {
			x = 0
		}
		wantOfDigits(t, n, wide, uint16(x), n >= 0 && n <= 9999)
		if n > 99 {
			x = 0
		}
		wantOfDigits(t, n, narrow, uint16(x), n >= 0 && n <= 99)
	}
	for _, n := range []int{math.MinInt, math.MinInt + 1, math.MinInt32, math.MaxInt32, math.MaxInt, 1 << 16, 1 << 32, 1<<32 + 5, 1 << 62} {
		wantOfDigits(t, n, wide, 0, false)
		wantOfDigits(t, n, narrow, 0, false)
	}
}

// P2.3: Extend of all bytes.
func TestExtend(t *testing.T) {
	for b := range 256 {
		want := b
		if b >= 128 {
			want = b + 65280
		}
		if x := alu.Extend(uint8(b)); int(x) != want {
			t.Errorf("Extend(%x): %x", b, x)
		}
	}
}
