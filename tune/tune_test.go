package tune_test

import (
	"bytes"
	"math/rand"
	"slices"
	"testing"

	"lanthorn/api"
	"lanthorn/notes"
	"lanthorn/tune"
)

// The flags, short.
const (
	fC = api.PegC
	fZ = api.PegZ
	fI = api.PegI
	fH = api.PegH
	fB = api.PegB
	fP = api.PegP
	fV = api.PegV
	fN = api.PegN
)

// idle, read and write are accesses.
var idle = api.Access{}

func read(addr uint32) api.Access           { return api.Access{Kind: api.Read, Addr: addr} }
func write(addr uint32, v uint8) api.Access { return api.Access{Kind: api.Write, Addr: addr, Value: v} }

// own is the reads of the example's first bytes, and what comes behind them.
func own(n int, then ...api.Access) []api.Access {
	l := []api.Access{read(0x200), read(0x201), read(0x202)}
	return append(l[:n:n], then...)
}

// change changes registers.
type change func(r *api.Pegs)

// like is the registers of the chapter's examples, changed.
func like(changes ...change) api.Pegs {
	r := api.Pegs{A: 5, X: 2, S: 0xef, Pc: 0x200}
	for _, c := range changes {
		c(&r)
	}
	return r
}

func a(n uint8) change        { return func(r *api.Pegs) { r.A = n } }
func x(n uint8) change        { return func(r *api.Pegs) { r.X = n } }
func y(n uint8) change        { return func(r *api.Pegs) { r.Y = n } }
func s(n uint8) change        { return func(r *api.Pegs) { r.S = n } }
func psw(n uint8) change      { return func(r *api.Pegs) { r.Psw = n } }
func pc(n uint16) change      { return func(r *api.Pegs) { r.Pc = n } }
func halted(r *api.Pegs)      { r.Halt = true }
func ya(n uint16) change      { return func(r *api.Pegs) { r.A, r.Y = uint8(n), uint8(n>>8) } }
func seen(l ...uint8) []uint8 { return l }

// wantWhole asks for all accesses of an instruction, and for the registers behind it, told as changes of those ahead.
func wantWhole(t *testing.T, r api.Pegs, seen []uint8, list []api.Access, behind ...change) {
	t.Helper()
	got, done, after := tune.Course(r, seen)
	want := r
	for _, c := range behind {
		c(&want)
	}
	if !slices.Equal(got, list) || !done || after != want {
		t.Errorf("% X of %+v: %X, %v, %+v, want\n%X, true, %+v", seen, r, got, done, after, list, want)
	}
}

// wantLack asks for the accesses of an instruction that lacks a byte.
func wantLack(t *testing.T, r api.Pegs, seen []uint8, list ...api.Access) {
	t.Helper()
	got, done, after := tune.Course(r, seen)
	if !slices.Equal(got, list) || done || after != (api.Pegs{}) {
		t.Errorf("% X of %+v: %X, %v, %+v, want %X, false", seen, r, got, done, after, list)
	}
}

// P11.1: the chapter's examples, in their order.
func TestExamples(t *testing.T) {
	wantLack(t, like(), nil, own(1)...)
	wantLack(t, like(), seen(0xe8), own(2)...)
	wantWhole(t, like(), seen(0xe8, 0x80), own(2), a(0x80), psw(fN), pc(0x202))
	wantLack(t, like(), seen(0x84, 0x10), own(2, read(0x10))...)
	wantWhole(t, like(), seen(0x84, 0x10, 0xff), own(2, read(0x10)), a(4), psw(fC|fH), pc(0x202))
	wantWhole(t, like(), seen(0xc4, 0x10), own(2, idle, write(0x10, 5)), pc(0x202))
	wantWhole(t, like(), seen(0x2f, 0xfe), own(2, idle, idle), pc(0x200))
	wantWhole(t, like(), seen(0x3f, 0x34, 0x12), own(3, idle, idle, idle, write(0x1ef, 2), write(0x1ee, 3)), s(0xed), pc(0x1234))
	wantWhole(t, like(halted), nil, []api.Access{idle})
}

// P11.1: bytes that are not read are not looked at.
func TestMoreSeen(t *testing.T) {
	wantWhole(t, like(), seen(0xe8, 0x80, 1, 2), own(2), a(0x80), psw(fN), pc(0x202))
	wantWhole(t, like(), seen(0x00, 0xe8), own(1, idle), pc(0x201))
	wantWhole(t, like(halted), seen(0xe8, 0x80), []api.Access{idle})
}

// P11.1: the places of operands, by their letters; the direct page wraps round in itself, addresses at the end of all.
func TestPlaces(t *testing.T) {
	wantWhole(t, like(psw(fP)), seen(0xe4, 0x10, 7), own(2, read(0x110)), a(7), pc(0x202))
	wantWhole(t, like(), seen(0xf4, 0xff, 7), own(2, idle, read(0x01)), a(7), pc(0x202))
	wantWhole(t, like(psw(fP)), seen(0xf4, 0xfe, 7), own(2, idle, read(0x100)), a(7), pc(0x202))
	wantWhole(t, like(y(3)), seen(0xf9, 0xfe, 7), own(2, idle, read(0x01)), x(7), pc(0x202))
	wantWhole(t, like(y(3), psw(fP)), seen(0xd9, 0x10), own(2, idle, idle, write(0x113, 2)), pc(0x202))
	wantWhole(t, like(), seen(0xe6, 7), own(1, idle, read(0x02)), a(7), pc(0x201))
	wantWhole(t, like(x(0xff), psw(fP)), seen(0xbf, 7), own(1, idle, idle, read(0x1ff)), a(7), x(0), pc(0x201))
	wantWhole(t, like(), seen(0xaf), own(1, idle, idle, write(0x02, 5)), x(3), pc(0x201))
	wantWhole(t, like(y(0x30)), seen(0x19, 0xf0, 0x0f), own(1, idle, read(0x30), read(0x02), write(0x02, 0xff)), psw(fN), pc(0x201))
	wantWhole(t, like(), seen(0xe5, 0xff, 0xff, 7), own(3, read(0xffff)), a(7), pc(0x203))
	wantWhole(t, like(), seen(0xf5, 0xff, 0xff, 7), own(3, idle, read(0x0001)), a(7), pc(0x203))
	wantWhole(t, like(y(0x80)), seen(0xf6, 0x80, 0xff, 7), own(3, idle, read(0x0000)), a(7), pc(0x203))
	wantWhole(t, like(y(0x80)), seen(0xf6, 0x80, 0x12, 7), own(3, idle, read(0x1300)), a(7), pc(0x203))
	wantWhole(t, like(), seen(0xe7, 0xfd, 0x34, 0x12, 7), own(2, idle, read(0xff), read(0x00), read(0x1234)), a(7), pc(0x202))
	wantWhole(t, like(x(0xf0), psw(fP)), seen(0xe7, 0x20, 0x34, 0x12, 7), own(2, idle, read(0x110), read(0x111), read(0x1234)), a(7), psw(fP), pc(0x202))
	wantWhole(t, like(y(0xff)), seen(0xf7, 0xff, 0x34, 0xff, 7), own(2, idle, read(0xff), read(0x00), read(0x0033)), a(7), pc(0x202))
	wantWhole(t, like(y(1)), seen(0xd7, 0x10, 0xff, 0x12), own(2, idle, idle, read(0x10), read(0x11), write(0x1300, 5)), pc(0x202))
	wantWhole(t, like(psw(fP)), seen(0xc7, 0xfd, 0xff, 0xff), own(2, idle, idle, read(0x1ff), read(0x100), write(0xffff, 5)), pc(0x202))
	wantWhole(t, like(psw(fP)), seen(0xba, 0xff, 1, 2), own(2, idle, read(0x1ff), read(0x100)), ya(0x201), pc(0x202))
}

// P11.1: with dd, d# and ij what is read is read in the order O, D; the bytes stand in the order O, D, too.
func TestOrder(t *testing.T) {
	wantWhole(t, like(), seen(0xfa, 0x12, 0x34, 7), own(3, read(0x12), write(0x34, 7)), pc(0x203))
	wantWhole(t, like(), seen(0x29, 0x12, 0x34, 0x0f, 0x3c), own(3, read(0x12), read(0x34), write(0x34, 0x0c)), pc(0x203))
	wantWhole(t, like(), seen(0xa9, 0x12, 0x34, 1, 3), own(3, read(0x12), read(0x34), write(0x34, 1)), psw(fC|fH), pc(0x203))
	wantWhole(t, like(), seen(0x69, 0x12, 0x34, 1, 3), own(3, idle, read(0x12), read(0x34)), psw(fC), pc(0x203))
	wantWhole(t, like(), seen(0x8f, 0x12, 0x34), own(3, idle, write(0x34, 0x12)), pc(0x203))
	wantWhole(t, like(), seen(0x78, 0x12, 0x34, 0x11), own(3, idle, read(0x34)), psw(fN), pc(0x203))
	wantWhole(t, like(), seen(0x18, 0x12, 0x34, 0), own(3, read(0x34), write(0x34, 0x12)), pc(0x203))
	wantWhole(t, like(y(9)), seen(0x79, 1, 1), own(1, idle, idle, read(0x09), read(0x02)), psw(fZ|fC), pc(0x201))
	wantLack(t, like(), seen(0x29, 0x12, 0x34, 0x0f), own(3, read(0x12), read(0x34))...)
	wantLack(t, like(), seen(0x49, 0x12, 0x34), own(3, read(0x12))...)
}

// P11.1: only the registers A, X, Y tell N and Z of what is moved there.
func TestMove(t *testing.T) {
	wantWhole(t, like(psw(fN)), seen(0xe8, 0), own(2), a(0), psw(fZ), pc(0x202))
	wantWhole(t, like(psw(fZ)), seen(0xcd, 0x80), own(2), x(0x80), psw(fN), pc(0x202))
	wantWhole(t, like(psw(fZ)), seen(0x8d, 0x7f), own(2), y(0x7f), psw(0), pc(0x202))
	wantWhole(t, like(y(0x80)), seen(0xdd), own(1, idle), a(0x80), psw(fN), pc(0x201))
	wantWhole(t, like(), seen(0x9d), own(1, idle), x(0xef), psw(fN), pc(0x201))
	wantWhole(t, like(x(0)), seen(0xbd), own(1, idle), s(0), pc(0x201))
	wantWhole(t, like(a(0), psw(fN)), seen(0xc5, 0x34, 0x12), own(3, idle, write(0x1234, 0)), pc(0x203))
	wantWhole(t, like(psw(fN)), seen(0xfa, 1, 2, 0), own(3, read(1), write(2, 0)), pc(0x203))
}

// P11.1: sums and differences of bytes, with C, H and V at their edges.
func TestSums(t *testing.T) {
	for _, w := range []struct{ a, p, code, o, sum, behind uint8 }{
		{0x00, 0, 0x88, 0x00, 0x00, fZ},
		{0x0f, 0, 0x88, 0x01, 0x10, fH},
		{0x0f, fC, 0x88, 0x00, 0x10, fH},
		{0x0e, fC, 0x88, 0x00, 0x0f, 0},
		{0x7f, 0, 0x88, 0x01, 0x80, fH | fV | fN},
		{0x80, 0, 0x88, 0x80, 0x00, fC | fV | fZ},
		{0x80, 0, 0x88, 0x7f, 0xff, fN},
		{0xff, fC, 0x88, 0xff, 0xff, fC | fH | fN},
		{0xff, fV | fH, 0x88, 0x01, 0x00, fC | fH | fZ},
		{0x10, fC, 0xa8, 0x01, 0x0f, fC},
		{0x10, 0, 0xa8, 0x01, 0x0e, fC},
		{0x10, 0, 0xa8, 0x10, 0xff, fN},
		{0x10, fC, 0xa8, 0x10, 0x00, fC | fH | fZ},
		{0x80, fC, 0xa8, 0x01, 0x7f, fC | fV},
		{0x7f, fC, 0xa8, 0xff, 0x80, fV | fN | fH}, // the lower four bits: F less F
		{0x00, fC, 0xa8, 0x80, 0x80, fH | fV | fN},
	} {
		wantWhole(t, like(a(w.a), psw(w.p)), seen(w.code, w.o), own(2), a(w.sum), psw(w.behind), pc(0x202))
	}
	wantWhole(t, like(psw(fH|fV)), seen(0x68, 5), own(2), psw(fH|fV|fZ|fC), pc(0x202))
	wantWhole(t, like(psw(fC)), seen(0x68, 6), own(2), psw(fN), pc(0x202))
	wantWhole(t, like(), seen(0xc8, 1), own(2), psw(fC), pc(0x202))
	wantWhole(t, like(y(0x80)), seen(0x7e, 0x10, 1), own(2, read(0x10)), psw(fC), pc(0x202))
}

// P11.1: a byte shifted, turned, one more, one less.
func TestChange(t *testing.T) {
	for _, w := range []struct{ code, a, p, to, behind uint8 }{
		{0x1c, 0x80, 0, 0x00, fC | fZ}, {0x1c, 0x41, fC, 0x82, fN},
		{0x5c, 0x01, 0, 0x00, fC | fZ}, {0x5c, 0xfe, fC | fN, 0x7f, 0},
		{0x3c, 0x80, 0, 0x00, fC | fZ}, {0x3c, 0x40, fC, 0x81, fN},
		{0x7c, 0x01, 0, 0x00, fC | fZ}, {0x7c, 0x02, fC, 0x81, fN},
		{0xbc, 0xff, fC | fV | fH, 0x00, fC | fV | fH | fZ}, {0xbc, 0x7f, 0, 0x80, fN},
		{0x9c, 0x00, fC, 0xff, fC | fN}, {0x9c, 0x01, 0, 0x00, fZ},
		{0x9f, 0xa5, 0, 0x5a, 0}, {0x9f, 0x08, 0, 0x80, fN}, {0x9f, 0x00, fN, 0x00, fZ},
	} {
		list := own(1, idle)
		if w.code == 0x9f {
			list = own(1, idle, idle, idle, idle)
		}
		wantWhole(t, like(a(w.a), psw(w.p)), seen(w.code), list, a(w.to), psw(w.behind), pc(0x201))
	}
	wantWhole(t, like(), seen(0x3d), own(1, idle), x(3), pc(0x201))
	wantWhole(t, like(), seen(0xdc), own(1, idle), y(0xff), psw(fN), pc(0x201))
	wantWhole(t, like(), seen(0x0b, 0x10, 0xc0), own(2, read(0x10), write(0x10, 0x80)), psw(fC|fN), pc(0x202))
	wantWhole(t, like(psw(fP|fC)), seen(0x7b, 0xff, 0), own(2, idle, read(0x101), write(0x101, 0x80)), psw(fP|fN), pc(0x202))
	wantWhole(t, like(), seen(0xac, 0xff, 0xff, 0xff), own(3, read(0xffff), write(0xffff, 0)), psw(fZ), pc(0x203))
	wantLack(t, like(), seen(0x7b, 0xff), own(2, idle, read(0x01))...)
}

// P11.1: the stack goes round in its page.
func TestStack(t *testing.T) {
	wantWhole(t, like(s(0)), seen(0x2d), own(1, idle, idle, write(0x100, 5)), s(0xff), pc(0x201))
	wantWhole(t, like(psw(0xdf)), seen(0x0d), own(1, idle, idle, write(0x1ef, 0xdf)), s(0xee), pc(0x201))
	wantWhole(t, like(), seen(0x4d), own(1, idle, idle, write(0x1ef, 2)), s(0xee), pc(0x201))
	wantWhole(t, like(y(9)), seen(0x6d), own(1, idle, idle, write(0x1ef, 9)), s(0xee), pc(0x201))
	wantWhole(t, like(s(0xff), psw(fN)), seen(0xae, 0), own(1, idle, idle, read(0x100)), a(0), s(0), pc(0x201))
	wantWhole(t, like(), seen(0x8e, 0xff), own(1, idle, idle, read(0x1f0)), psw(0xff), s(0xf0), pc(0x201))
	wantWhole(t, like(), seen(0xce, 0x80), own(1, idle, idle, read(0x1f0)), x(0x80), s(0xf0), pc(0x201))
	wantWhole(t, like(), seen(0xee, 0x80), own(1, idle, idle, read(0x1f0)), y(0x80), s(0xf0), pc(0x201))
	wantLack(t, like(), seen(0xee), own(1, idle, idle, read(0x1f0))...)
}

// P11.1: bits of a place, and of an address.
func TestBits(t *testing.T) {
	for nth := range uint8(8) {
		bit := uint8(1) << nth
		up := nth << 5 // of a code, and of a word's upper byte
		wantWhole(t, like(), seen(0x02|up, 0x10, 0), own(2, read(0x10), write(0x10, bit)), pc(0x202))
		wantWhole(t, like(psw(fP)), seen(0x12|up, 0x10, 0xff), own(2, read(0x110), write(0x110, 0xff-bit)), pc(0x202))
		wantWhole(t, like(), seen(0xea, 0x34, 0x12|up, bit), own(3, read(0x1234), write(0x1234, 0)), pc(0x203))
		wantWhole(t, like(), seen(0xea, 0xff, 0x1f|up, 0xff-bit), own(3, read(0x1fff), write(0x1fff, 0xff)), pc(0x203))
		wantWhole(t, like(psw(fC)), seen(0xca, 0x34, 0x12|up, 0), own(3, idle, read(0x1234), write(0x1234, bit)), pc(0x203))
		wantWhole(t, like(), seen(0xca, 0x34, 0x12|up, 0xff), own(3, idle, read(0x1234), write(0x1234, 0xff-bit)), pc(0x203))
		wantWhole(t, like(), seen(0xaa, 0x34, 0x12|up, bit), own(3, read(0x1234)), psw(fC), pc(0x203))
		wantWhole(t, like(psw(fC)), seen(0xaa, 0x34, 0x12|up, 0xff-bit), own(3, read(0x1234)), psw(0), pc(0x203))
		wantWhole(t, like(), seen(0x03|up, 0x10, 4, bit), own(3, idle, read(0x10), idle, idle), pc(0x207))
		wantWhole(t, like(), seen(0x03|up, 0x10, 4, 0xff-bit), own(3, idle, read(0x10)), pc(0x203))
		wantWhole(t, like(), seen(0x13|up, 0x10, 0xfd, 0xff-bit), own(3, idle, read(0x10), idle, idle), pc(0x200))
		wantWhole(t, like(), seen(0x13|up, 0x10, 0xfd, bit), own(3, idle, read(0x10)), pc(0x203))
	}
}

// P11.1: the carry and a bit together: what comes out by C and by the bit, 0 0, 0 1, 1 0, 1 1.
func TestCombineCarry(t *testing.T) {
	for code, out := range map[uint8][4]uint8{0x0a: {0, 1, 1, 1}, 0x2a: {1, 0, 1, 1}, 0x4a: {0, 0, 0, 1}, 0x6a: {0, 0, 1, 0}, 0x8a: {0, 1, 1, 0}} {
		for k, c := range out {
			list := own(3, idle, read(0x1234))
			if code == 0x4a || code == 0x6a {
				list = own(3, read(0x1234))
			}
			bit := uint8(k) & 1
			wantWhole(t, like(psw(0xfe|uint8(k)>>1)), seen(code, 0x34, 0xb2, 0xdf|bit<<5), list, psw(0xfe|c), pc(0x203))
		}
	}
}

// P11.1: bits set and cleared by A, which is held against the byte as it was.
func TestChangeBits(t *testing.T) {
	wantWhole(t, like(a(0x81), psw(fC)), seen(0x0e, 0x34, 0x12, 0x01), own(3, idle, read(0x1234), write(0x1234, 0x81)), psw(fC|fN), pc(0x203))
	wantWhole(t, like(a(0x0f)), seen(0x4e, 0x34, 0x12, 0x0f), own(3, idle, read(0x1234), write(0x1234, 0)), psw(fZ), pc(0x203))
	wantWhole(t, like(a(0x0f)), seen(0x4e, 0x34, 0x12, 0xf3), own(3, idle, read(0x1234), write(0x1234, 0xf0)), pc(0x203))
}

// P11.1: words of the direct page.
func TestWords(t *testing.T) {
	wantWhole(t, like(psw(fZ)), seen(0xba, 0x10, 0, 0x80), own(2, idle, read(0x10), read(0x11)), ya(0x8000), psw(fN), pc(0x202))
	wantWhole(t, like(psw(fN)), seen(0xba, 0x10, 0, 0), own(2, idle, read(0x10), read(0x11)), ya(0), psw(fZ), pc(0x202))
	wantWhole(t, like(psw(fN|fZ), ya(0x1234)), seen(0xda, 0xff), own(2, idle, write(0xff, 0x34), write(0x00, 0x12)), pc(0x202))
	for _, w := range []struct {
		code   uint8
		ya, w  uint16
		to     uint16
		p      uint8
		behind uint8
	}{
		{0x7a, 0x0fff, 0x0001, 0x1000, fC, fH},
		{0x7a, 0x00ff, 0x0001, 0x0100, 0xcb, 0},
		{0x7a, 0x7fff, 0x0001, 0x8000, 0, fH | fV | fN},
		{0x7a, 0x8000, 0x8000, 0x0000, 0, fC | fV | fZ},
		{0x7a, 0xffff, 0x0001, 0x0000, 0, fC | fH | fZ},
		{0x7a, 0x0001, 0x00ff, 0x0100, fI | fB, fI | fB},
		{0x9a, 0x1000, 0x0001, 0x0fff, 0, fC},
		{0x9a, 0x1000, 0x1000, 0x0000, 0, fC | fH | fZ},
		{0x9a, 0x0000, 0x0001, 0xffff, fV, fN},
		{0x9a, 0x8000, 0x0001, 0x7fff, 0, fC | fV},
		{0x9a, 0x7fff, 0xffff, 0x8000, 0, fH | fV | fN},
		{0x9a, 0x0100, 0x0001, 0x00ff, 0, fC | fH},
	} {
		wantWhole(t, like(ya(w.ya), psw(w.p)), seen(w.code, 0x10, uint8(w.w), uint8(w.w>>8)), own(2, idle, read(0x10), read(0x11)), ya(w.to), psw(w.behind), pc(0x202))
	}
	wantWhole(t, like(ya(0x1234), psw(fV|fH)), seen(0x5a, 0x10, 0x34, 0x12), own(2, read(0x10), read(0x11)), psw(fV|fH|fC|fZ), pc(0x202))
	wantWhole(t, like(ya(0x1234), psw(fC)), seen(0x5a, 0x10, 0x35, 0x12), own(2, read(0x10), read(0x11)), psw(fN), pc(0x202))
	wantWhole(t, like(ya(0x0100)), seen(0x5a, 0x10, 0x01, 0x00), own(2, read(0x10), read(0x11)), psw(fC), pc(0x202))
	wantWhole(t, like(psw(fC|fP)), seen(0x3a, 0xff, 0xff, 0x7f), own(2, read(0x1ff), read(0x100), write(0x1ff, 0), write(0x100, 0x80)), psw(fC|fP|fN), pc(0x202))
	wantWhole(t, like(), seen(0x3a, 0x10, 0xff, 0xff), own(2, read(0x10), read(0x11), write(0x10, 0), write(0x11, 0)), psw(fZ), pc(0x202))
	wantWhole(t, like(), seen(0x1a, 0x10, 0x00, 0x01), own(2, read(0x10), read(0x11), write(0x10, 0xff), write(0x11, 0)), pc(0x202))
	wantWhole(t, like(), seen(0x1a, 0x10, 0x00, 0x00), own(2, read(0x10), read(0x11), write(0x10, 0xff), write(0x11, 0xff)), psw(fN), pc(0x202))
	wantLack(t, like(), seen(0x3a, 0x10, 0xff), own(2, read(0x10), read(0x11))...)
}

// P11.1: MUL and DIV, and what is divided by 0, or too great.
func TestMulDiv(t *testing.T) {
	idles := func(n int) []api.Access { return own(1, make([]api.Access, n)...) }
	wantWhole(t, like(a(0xff), y(0xff), psw(fV|fH|fC)), seen(0xcf), idles(8), ya(0xfe01), psw(fV|fH|fC|fN), pc(0x201))
	wantWhole(t, like(a(0x10), y(0x0f)), seen(0xcf), idles(8), ya(0x00f0), psw(fZ), pc(0x201))
	for _, w := range []struct {
		ya        uint16
		x, a, y   uint8
		p, behind uint8
	}{
		{0x0064, 7, 14, 2, fV | fC, fC},
		{0x0700, 8, 0xe0, 0, 0, fN},
		{0x0800, 8, 0x00, 0, 0, fV | fH | fZ},
		{0x0807, 8, 0x00, 7, 0, fV | fH | fZ},
		{0x0fff, 0x10, 0xff, 0x0f, 0, fH | fN},
		{0xffff, 1, 0xff, 0, 0, fV | fH | fN},
		{0xffff, 0xff, 0x01, 0, 0, fV | fH},
		{0x1234, 0, 0xff, 0x34, 0, fV | fH | fN},
		{0x0000, 0, 0xff, 0x00, 0, fV | fH | fN},
		{0x0005, 9, 0, 5, 0, fZ},
		{0x1023, 0x21, 0x7d, 0x06, fH, 0},
	} {
		wantWhole(t, like(ya(w.ya), x(w.x), psw(w.p)), seen(0x9e), idles(11), a(w.a), y(w.y), psw(w.behind), pc(0x201))
	}
}

// P11.1: DAA and DAS at their edges.
func TestAdjust(t *testing.T) {
	for _, w := range []struct{ code, a, p, to, behind uint8 }{
		{0xdf, 0x99, 0, 0x99, fN}, {0xdf, 0x9a, 0, 0x00, fC | fZ}, {0xdf, 0x09, 0, 0x09, 0}, {0xdf, 0x0a, 0, 0x10, 0},
		{0xdf, 0x00, fC, 0x60, fC}, {0xdf, 0x10, fH, 0x16, fH}, {0xdf, 0x98, fC | fH, 0xfe, fC | fH | fN}, {0xdf, 0x64, fV, 0x64, fV},
		{0xbe, 0x99, fC | fH, 0x99, fC | fH | fN}, {0xbe, 0x9a, fC | fH, 0x34, fH}, {0xbe, 0x0a, fC | fH, 0x04, fC | fH}, {0xbe, 0x09, fC | fH, 0x09, fC | fH},
		{0xbe, 0x60, fH, 0x00, fH | fZ}, {0xbe, 0x06, fC, 0x00, fC | fZ}, {0xbe, 0x00, 0, 0x9a, fN}, {0xbe, 0x64, fC | fH, 0x64, fC | fH},
	} {
		wantWhole(t, like(a(w.a), psw(w.p)), seen(w.code), own(1, idle, idle), a(w.to), psw(w.behind), pc(0x201))
	}
}

// P11.1: branches by flags, to both sides and round the ends; they have two idles more, at the end.
func TestBranches(t *testing.T) {
	for code, flag := range map[uint8]uint8{0x10: fN, 0x50: fV, 0x90: fC, 0xd0: fZ} {
		wantWhole(t, like(psw(0xff-flag)), seen(code, 0x7f), own(2, idle, idle), pc(0x281))
		wantWhole(t, like(psw(flag)), seen(code, 0x7f), own(2), pc(0x202))
		wantWhole(t, like(psw(flag)), seen(code|0x20, 0x80), own(2, idle, idle), pc(0x182))
		wantWhole(t, like(psw(0xff-flag)), seen(code|0x20, 0x80), own(2), pc(0x202))
	}
	wantWhole(t, like(psw(0xff)), seen(0x2f, 0x00), own(2, idle, idle), pc(0x202))
	wantWhole(t, like(pc(0xfffe)), seen(0x2f, 0x00), []api.Access{read(0xfffe), read(0xffff), idle, idle}, pc(0x0000))
	wantWhole(t, like(pc(0xffff)), seen(0x2f, 0x80), []api.Access{read(0xffff), read(0x0000), idle, idle}, pc(0xff81))
	wantWhole(t, like(pc(0xffff)), seen(0x8f, 1, 2), []api.Access{read(0xffff), read(0x0000), read(0x0001), idle, write(2, 1)}, pc(0x0002))
	wantLack(t, like(), seen(0x2f), own(2)...)
}

// P11.1: branches by a byte.
func TestBranchByByte(t *testing.T) {
	wantWhole(t, like(psw(0xff)), seen(0x2e, 0x10, 4, 6), own(3, idle, read(0x110), idle, idle), pc(0x207))
	wantWhole(t, like(), seen(0x2e, 0x10, 4, 5), own(3, idle, read(0x10)), pc(0x203))
	wantWhole(t, like(), seen(0xde, 0xff, 0xfd, 6), own(3, idle, idle, read(0x01), idle, idle), pc(0x200))
	wantWhole(t, like(), seen(0xde, 0xff, 0xfd, 5), own(3, idle, idle, read(0x01)), pc(0x203))
	wantWhole(t, like(psw(0xdf)), seen(0x6e, 0x10, 4, 0), own(3, read(0x10), write(0x10, 0xff), idle, idle), pc(0x207))
	wantWhole(t, like(), seen(0x6e, 0x10, 4, 1), own(3, read(0x10), write(0x10, 0)), pc(0x203))
	wantWhole(t, like(y(1)), seen(0xfe, 4), own(2, idle, idle), y(0), pc(0x202))
	wantWhole(t, like(y(0)), seen(0xfe, 4), own(2, idle, idle, idle, idle), y(0xff), pc(0x206))
	wantLack(t, like(), seen(0x6e, 0x10, 4), own(3, read(0x10))...)
}

// P11.1: jumps, calls, and the ways back.
func TestFar(t *testing.T) {
	wantWhole(t, like(), seen(0x5f, 0x34, 0x12), own(3), pc(0x1234))
	wantWhole(t, like(), seen(0x1f, 0x34, 0x12, 0x78, 0x56), own(3, idle, read(0x1236), read(0x1237)), pc(0x5678))
	wantWhole(t, like(x(1)), seen(0x1f, 0xfe, 0xff, 0x78, 0x56), own(3, idle, read(0xffff), read(0x0000)), pc(0x5678))
	wantWhole(t, like(x(0xff)), seen(0x1f, 0xff, 0xff, 0x78, 0x56), own(3, idle, read(0x00fe), read(0x00ff)), pc(0x5678))
	wantWhole(t, like(s(0)), seen(0x4f, 0x12), own(2, idle, idle, write(0x100, 2), write(0x1ff, 2)), s(0xfe), pc(0xff12))
	wantWhole(t, like(pc(0xfffd), s(0)), seen(0x3f, 0, 0), []api.Access{read(0xfffd), read(0xfffe), read(0xffff), idle, idle, idle, write(0x100, 0), write(0x1ff, 0)}, s(0xfe), pc(0))
	for n := range uint8(16) {
		at := 0xffde - 2*uint32(n)
		wantWhole(t, like(), seen(n<<4|1, 0x34, 0x12), own(1, idle, idle, idle, write(0x1ef, 2), write(0x1ee, 1), read(at), read(at+1)), s(0xed), pc(0x1234))
	}
	wantWhole(t, like(psw(fI|fC)), seen(0x0f, 0x34, 0x12), own(1, idle, idle, write(0x1ef, 2), write(0x1ee, 1), write(0x1ed, fI|fC), read(0xffde), read(0xffdf)), s(0xec), psw(fB|fC), pc(0x1234))
	wantLack(t, like(s(1)), seen(0x0f, 0x34), own(1, idle, idle, write(0x101, 2), write(0x100, 1), write(0x1ff, 0), read(0xffde), read(0xffdf))...)
	wantWhole(t, like(s(0xfe)), seen(0x6f, 0x34, 0x12), own(1, idle, idle, read(0x1ff), read(0x100)), s(0), pc(0x1234))
	wantWhole(t, like(), seen(0x7f, 0xff, 0x34, 0x12), own(1, idle, idle, read(0x1f0), read(0x1f1), read(0x1f2)), s(0xf2), psw(0xff), pc(0x1234))
	wantLack(t, like(), seen(0x7f, 0xff), own(1, idle, idle, read(0x1f0), read(0x1f1))...)
}

// P11.1: flags one by one, and the ends of all.
func TestFlags(t *testing.T) {
	for code, w := range map[uint8][2]uint8{0x60: {fC, 0}, 0x80: {fC, fC}, 0x20: {fP, 0}, 0x40: {fP, fP}, 0xa0: {fI, fI}, 0xc0: {fI, 0}, 0xe0: {fV | fH, 0}, 0x00: {0, 0}} {
		list := own(1, idle)
		if code == 0xa0 || code == 0xc0 {
			list = own(1, idle, idle)
		}
		for _, p := range []uint8{0, 0xff, 0x55, 0xaa} {
			wantWhole(t, like(psw(p)), seen(code), list, psw(p&^w[0]|w[1]), pc(0x201))
		}
	}
	wantWhole(t, like(psw(0xfe)), seen(0xed), own(1, idle, idle), psw(0xff), pc(0x201))
	wantWhole(t, like(psw(0x55)), seen(0xed), own(1, idle, idle), psw(0x54), pc(0x201))
	for _, code := range []uint8{0xef, 0xff} {
		wantWhole(t, like(psw(0xff)), seen(code), own(1, idle, idle), halted, pc(0x201))
	}
}

// P11.1: each code, of registers of any kind, with each number of bytes seen, is what the chapter's words say.
func TestNaive(t *testing.T) {
	r := rand.New(rand.NewSource(11))
	for code := range 256 {
		for range 400 {
			regs := somePegs(r)
			l := seen(uint8(code), some(r), some(r), some(r), some(r), some(r), some(r))
			for n := range l {
				list, done, behind := tune.Course(regs, l[:n])
				wantList, wantDone, wantBehind := naiveCourse(regs, l[:n])
				if !slices.Equal(list, wantList) || done != wantDone || behind != wantBehind {
					t.Fatalf("%s % X of %+v: %X, %v, %+v, want\n%X, %v, %+v", notes.Of(uint8(code)).Name, l[:n], regs, list, done, behind, wantList, wantDone, wantBehind)
				}
			}
		}
	}
}

// P11.1: what is made of two bytes and a carry, of all of them.
func TestNaiveBytes(t *testing.T) {
	for _, code := range []uint8{0x68, 0x88, 0xa8, 0x08, 0x28, 0x48} {
		for n := range 1 << 17 {
			regs := api.Pegs{A: uint8(n), Psw: uint8(n >> 16)}
			l := seen(code, uint8(n>>8))
			_, _, behind := tune.Course(regs, l)
			if _, _, want := naiveCourse(regs, l); behind != want {
				t.Fatalf("% X of %+v: %+v, want %+v", l, regs, behind, want)
			}
		}
	}
}

// P11.2: a memory of any other size is none.
func TestNoMemory(t *testing.T) {
	for _, size := range []int{0, 1, 65535, 65537, 1 << 20} {
		for _, regs := range []api.Pegs{like(), like(halted)} {
			if l, behind, e := tune.Run(regs, make([]uint8, size)); l != nil || behind != (api.Pegs{}) || e != api.ErrArg {
				t.Errorf("Run on %d bytes: %X, %+v, %v", size, l, behind, e)
			}
		}
	}
	if l, behind, e := tune.Run(like(), nil); l != nil || behind != (api.Pegs{}) || e != api.ErrArg {
		t.Errorf("Run on nothing: %X, %+v, %v", l, behind, e)
	}
}

// P11.2: an instruction on a memory, which stays as it is.
func TestRun(t *testing.T) {
	memory := make([]uint8, 65536)
	copy(memory[0x200:], seen(0x3a, 0x10))
	copy(memory[0x10:], seen(0xff, 0x12))
	was := bytes.Clone(memory)
	l, behind, e := tune.Run(like(), memory)
	if want := own(2, read(0x10), read(0x11), write(0x10, 0), write(0x11, 0x13)); !slices.Equal(l, want) || behind != like(pc(0x202)) || e != api.OK {
		t.Errorf("%X, %+v, %v", l, behind, e)
	}
	if l, behind, e = tune.Run(like(halted), memory); !slices.Equal(l, []api.Access{idle}) || behind != like(halted) || e != api.OK {
		t.Errorf("halted: %X, %+v, %v", l, behind, e)
	}
	if !bytes.Equal(memory, was) {
		t.Error("the memory has changed")
	}
}

// P11.2: each code on memories of any kind is what the chapter's words say, reads behind writes among them, and the accesses are Course's of what is read.
func TestRunNaive(t *testing.T) {
	r := rand.New(rand.NewSource(112))
	for code := range 256 {
		memory := make([]uint8, 65536)
		r.Read(memory)
		was := bytes.Clone(memory)
		for range 40 {
			regs := somePegs(r)
			ahead := memory[regs.Pc]
			memory[regs.Pc], was[regs.Pc] = uint8(code), uint8(code)
			l, behind, e := tune.Run(regs, memory)
			wantL, wantBehind := naiveRun(regs, bytes.Clone(memory))
			if !slices.Equal(l, wantL) || behind != wantBehind || e != api.OK {
				t.Fatalf("%02X of %+v: %X, %+v, %v, want\n%X, %+v", code, regs, l, behind, e, wantL, wantBehind)
			}
			var read []uint8
			for _, a := range l {
				if a.Kind == api.Read {
					read = append(read, memory[a.Addr])
				}
			}
			if again, done, after := tune.Course(regs, read); !slices.Equal(again, l) || !done || after != behind {
				t.Fatalf("%02X of %+v: Run %X, Course %X", code, regs, l, again)
			}
			if !bytes.Equal(memory, was) {
				t.Fatalf("%02X of %+v: the memory has changed", code, regs)
			}
			memory[regs.Pc], was[regs.Pc] = ahead, ahead
		}
	}
}

// R3: what is handed in is not changed, the room behind its end neither; what is answered is new memory.
func TestNothingShared(t *testing.T) {
	room := seen(0xc4, 0x10, 0x34, 5)
	was := bytes.Clone(room)
	l, _, _ := tune.Course(like(), room[:2])
	again, _, _ := tune.Course(like(), room[:2])
	memory := make([]uint8, 65536)
	run, _, _ := tune.Run(like(), memory)
	other, _, _ := tune.Run(like(), memory)
	l[0].Addr, run[0].Addr = 9, 9
	_, _ = append(l, write(1, 2)), append(run, write(1, 2))
	if !bytes.Equal(room, was) || !slices.Equal(again, own(2, idle, write(0x10, 5))) || !slices.Equal(other, own(1, idle)) {
		t.Error("an instruction shares its bytes, or its accesses")
	}
}
