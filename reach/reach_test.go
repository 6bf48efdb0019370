package reach_test

import (
	"fmt"
	"slices"
	"testing"

	"lanthorn/api"
	"lanthorn/codes"
	"lanthorn/reach"
)

// The flags, short.
const (
	fM = api.FlagM
	fX = api.FlagX
)

// idle, read and write are accesses.
func idle() api.Access                      { return api.Access{Kind: api.Idle} }
func read(addr uint32) api.Access           { return api.Access{Kind: api.Read, Addr: addr} }
func write(addr uint32, v uint8) api.Access { return api.Access{Kind: api.Write, Addr: addr, Value: v} }

// near and far are places that stay in their bank, and that do not.
func near(addr uint32) api.Place { return api.Place{Addr: addr, Bank: true} }
func far(addr uint32) api.Place  { return api.Place{Addr: addr} }

// told is a place as a text.
func told(p api.Place) string { return fmt.Sprintf("%06x %v", p.Addr, p.Bank) }

// example is the registers of the chapter's examples.
func example() api.Regs {
	return api.Regs{A: 0x7777, X: 0x10, Y: 0xf0, S: 0x1ff0, PC: 0x8001, B: 0x12, K: 0x80, P: fX}
}

// like is the example's registers, changed.
func like(change func(r *api.Regs)) api.Regs {
	r := example()
	change(&r)
	return r
}

// fetches are the reads of the example's first bytes, and what comes behind them.
func fetches(n int, then ...api.Access) []api.Access {
	l := []api.Access{read(0x808001), read(0x808002), read(0x808003)}
	return append(l[:n:n], then...)
}

func wantCourse(t *testing.T, mode, use uint8, r api.Regs, seen []uint8, list []api.Access, p api.Place, pc uint16) {
	t.Helper()
	got, place, next, ok := reach.Course(api.Code{Mode: mode, Use: use}, r, seen)
	if !slices.Equal(got, list) || place != p || next != pc || !ok {
		t.Errorf("Course of mode %d, use %d, %+v, seen % x: %x, %s, %04x, %v, want %x, %s, %04x", mode, use, r, seen, got, told(place), next, ok, list, told(p), pc)
	}
}

func wantStop(t *testing.T, mode, use uint8, r api.Regs, seen []uint8, list ...api.Access) {
	t.Helper()
	got, place, next, ok := reach.Course(api.Code{Mode: mode, Use: use}, r, seen)
	if !slices.Equal(got, list) || place != (api.Place{}) || next != 0 || ok {
		t.Errorf("Course of mode %d, use %d, %+v, seen % x: %x, %s, %04x, %v, want %x, not known", mode, use, r, seen, got, told(place), next, ok, list)
	}
}

// The chapter's examples, in their order.
func TestExamples(t *testing.T) {
	r := example()
	wantCourse(t, api.ModeD, api.UseRead, r, []uint8{0x20}, fetches(1), near(0x20), 0x8002)
	wantCourse(t, api.ModeD, api.UseRead, like(func(r *api.Regs) { r.D = 1 }), []uint8{0x20}, fetches(1, idle()), near(0x21), 0x8002)
	wantCourse(t, api.ModeAbsX, api.UseRead, r, []uint8{0x34, 0x12}, fetches(2), far(0x121244), 0x8003)
	wantCourse(t, api.ModeAbsX, api.UseRead, r, []uint8{0xf0, 0x34}, fetches(2, idle()), far(0x123500), 0x8003)
	wantStop(t, api.ModeAbsX, api.UseRead, r, []uint8{0x34}, fetches(2)...)
	for _, use := range []uint8{api.UseRead, api.UseWrite} {
		wantCourse(t, api.ModeIndY, use, r, []uint8{0x20, 0x34, 0x12}, fetches(1, read(0x20), read(0x21), idle()), far(0x121324), 0x8002)
	}
	wantCourse(t, api.ModeIndLong, api.UseRead, r, []uint8{0x20, 1, 2, 3}, fetches(1, read(0x20), read(0x21), read(0x22)), far(0x030201), 0x8002)
	wantCourse(t, api.ModeS, api.UseRead, r, []uint8{4}, fetches(1, idle()), near(0x1ff4), 0x8002)
	elder := like(func(r *api.Regs) { r.E, r.D, r.X = true, 0x100, 0xff })
	wantCourse(t, api.ModeDX, api.UseRead, elder, []uint8{3}, fetches(1, idle()), near(0x102), 0x8002)
	for p, want := range map[api.Place]api.Place{near(0xffff): near(0), far(0xffff): far(0x10000), far(0xffffff): far(0)} {
		if next := reach.Next(p); next != want {
			t.Errorf("Next(%s): %s, want %s", told(p), told(next), told(want))
		}
	}
}

// P7.1: registers, settled.
func TestSettle(t *testing.T) {
	odd := api.Regs{A: 0x1234, X: 0x5678, Y: 0x9abc, S: 0xdef0, D: 0x1357, PC: 0x2468, B: 0x12, K: 0x34}
	for _, c := range []struct {
		e       bool
		p, want uint8
		x, y, s uint16
	}{
		{false, 0, 0, 0x5678, 0x9abc, 0xdef0},
		{false, fM, fM, 0x5678, 0x9abc, 0xdef0},
		{false, fX, fX, 0x78, 0xbc, 0xdef0},
		{false, 0xff, 0xff, 0x78, 0xbc, 0xdef0},
		{false, 0xef, 0xef, 0x5678, 0x9abc, 0xdef0},
		{true, 0, fM | fX, 0x78, 0xbc, 0x1f0},
		{true, fM, fM | fX, 0x78, 0xbc, 0x1f0},
		{true, 0xcf, 0xff, 0x78, 0xbc, 0x1f0},
		{true, 0x81, 0xb1, 0x78, 0xbc, 0x1f0},
	} {
		r, want := odd, odd
		r.E, r.P = c.e, c.p
		want.E, want.P, want.X, want.Y, want.S = c.e, c.want, c.x, c.y, c.s
		if got := reach.Settle(r); got != want {
			t.Errorf("Settle(%+v): %+v, want %+v", r, got, want)
		}
	}
	for s, want := range map[uint16]uint16{0: 0x100, 0xff: 0x1ff, 0x100: 0x100, 0x1ff: 0x1ff, 0x200: 0x100, 0xffff: 0x1ff} {
		if r := reach.Settle(api.Regs{E: true, S: s}); r.S != want {
			t.Errorf("Settle: S %04x becomes %04x", s, r.S)
		}
	}
}

// P7.1: direct places: within the page only if E, and D begins one; of registers as they are.
func TestDirect(t *testing.T) {
	for _, c := range []struct {
		e    bool
		d    uint16
		n    uint32
		want uint32
	}{
		{false, 0, 0x20, 0x20},
		{false, 0, 0x120, 0x120},
		{false, 0x100, 0x120, 0x220},
		{true, 0x100, 0x20, 0x120},
		{true, 0x100, 0x120, 0x120},
		{true, 0x100, 0xff, 0x1ff},
		{true, 0x100, 0x100, 0x100},
		{true, 0xff00, 0xffffffff, 0xffff},
		{true, 0, 0x12345678, 0x78},
		{true, 0x101, 0xff, 0x200},
		{true, 0x1ff, 0x1ff, 0x3fe},
		{true, 0xff01, 0xff, 0},
		{false, 0xff00, 0xff, 0xffff},
		{false, 0xff00, 0x100, 0},
		{false, 0xffff, 0xffff, 0xfffe},
		{false, 0x8000, 0xffffffff, 0x7fff},
		{false, 0xffff, 0xffff0001, 0},
	} {
		r := api.Regs{E: c.e, D: c.d, B: 0x12, K: 0x34, X: 9, Y: 9, S: 9, PC: 9}
		if got := reach.Direct(r, c.n); got != c.want {
			t.Errorf("Direct of E %v, D %04x, %x: %x, want %x", c.e, c.d, c.n, got, c.want)
		}
	}
}

// P7.1: the place one further, and addresses of more than 24 bits.
func TestNext(t *testing.T) {
	for p, want := range map[api.Place]api.Place{
		far(0): far(1), near(0): near(1),
		far(0x12ffff): far(0x130000), near(0x12ffff): near(0x120000),
		far(0x12fffe): far(0x12ffff), near(0x12fffe): near(0x12ffff),
		near(0xffffff): near(0xff0000), far(0xfffffe): far(0xffffff),
		far(0x1000000): far(1), near(0x1000000): near(1),
		far(0xffffffff): far(0), near(0xffffffff): near(0xff0000),
		far(0xab12ffff): far(0x130000), near(0xab12ffff): near(0x120000),
	} {
		if next := reach.Next(p); next != want {
			t.Errorf("Next(%s): %s, want %s", told(p), told(next), told(want))
		}
	}
}

// P7.2: one course of each mode, of a direct page that has the page's idle, and wide index registers.
func TestModes(t *testing.T) {
	r := like(func(r *api.Regs) { r.D, r.X, r.Y, r.P = 0x2003, 0x1111, 0x2222, 0 })
	for _, c := range []struct {
		mode uint8
		seen []uint8
		list []api.Access
		want api.Place
	}{
		{api.ModeD, []uint8{0x40}, fetches(1, idle()), near(0x2043)},
		{api.ModeDX, []uint8{0x40}, fetches(1, idle(), idle()), near(0x3154)},
		{api.ModeDY, []uint8{0x40}, fetches(1, idle(), idle()), near(0x4265)},
		{api.ModeInd, []uint8{0x40, 0xcd, 0xab}, fetches(1, idle(), read(0x2043), read(0x2044)), far(0x12abcd)},
		{api.ModeIndLong, []uint8{0x40, 0xcd, 0xab, 0xef}, fetches(1, idle(), read(0x2043), read(0x2044), read(0x2045)), far(0xefabcd)},
		{api.ModeIndX, []uint8{0x40, 0xcd, 0xab}, fetches(1, idle(), idle(), read(0x3154), read(0x3155)), far(0x12abcd)},
		{api.ModeIndY, []uint8{0x40, 0xcd, 0xab}, fetches(1, idle(), read(0x2043), read(0x2044), idle()), far(0x12cdef)},
		{api.ModeIndLongY, []uint8{0x40, 0xcd, 0xab, 0xef}, fetches(1, idle(), read(0x2043), read(0x2044), read(0x2045)), far(0xefcdef)},
		{api.ModeAbs, []uint8{0xcd, 0xab}, fetches(2), far(0x12abcd)},
		{api.ModeAbsX, []uint8{0xcd, 0xab}, fetches(2, idle()), far(0x12bcde)},
		{api.ModeAbsY, []uint8{0xcd, 0xab}, fetches(2, idle()), far(0x12cdef)},
		{api.ModeLong, []uint8{0xcd, 0xab, 0xef}, fetches(3), far(0xefabcd)},
		{api.ModeLongX, []uint8{0xcd, 0xab, 0xef}, fetches(3), far(0xefbcde)},
		{api.ModeS, []uint8{0x40}, fetches(1, idle()), near(0x2030)},
		{api.ModeSY, []uint8{0x40, 0xcd, 0xab}, fetches(1, idle(), read(0x2030), read(0x2031), idle()), far(0x12cdef)},
	} {
		size := codeSize(c.mode)
		for use := range uint8(4) {
			wantCourse(t, c.mode, use, r, c.seen, c.list, c.want, 0x8001+size)
			wantCourse(t, c.mode, use, r, append(slices.Clone(c.seen), 9, 9), c.list, c.want, 0x8001+size)
			wantStops(t, c.mode, use, r, c.seen, c.list)
		}
	}
}

// codeSize is how many bytes the operand of a mode has.
func codeSize(mode uint8) uint16 {
	for c := range codes.All() {
		if c.Mode == mode {
			return uint16(codes.Size(c.Code, 0)) - 1
		}
	}
	return 0
}

// wantStops lets a course stop at each of its reads.
func wantStops(t *testing.T, mode, use uint8, r api.Regs, seen []uint8, list []api.Access) {
	t.Helper()
	known := 0
	for i, a := range list {
		if a.Kind == api.Read {
			wantStop(t, mode, use, r, seen[:known], list[:i+1]...)
			known++
		}
	}
	if known != len(seen) {
		t.Errorf("mode %d: %d reads, %d bytes seen", mode, known, len(seen))
	}
}

// P7.2: modes that lead to no operand in memory, and numbers that are no mode.
func TestNoModes(t *testing.T) {
	for mode := range 256 {
		switch {
		case mode >= api.ModeD && mode <= api.ModeLongX, mode == api.ModeS, mode == api.ModeSY:
			wantStop(t, uint8(mode), api.UseRead, example(), nil, fetches(1)...)
			continue
		}
		for use := range uint8(5) {
			wantCourse(t, uint8(mode), use, example(), nil, nil, api.Place{}, 0x8001)
			wantCourse(t, uint8(mode), use, example(), []uint8{1, 2, 3, 4}, nil, api.Place{}, 0x8001)
		}
	}
}

// P7.2: the program's bytes are fetched within its bank.
func TestFetchWraps(t *testing.T) {
	r := like(func(r *api.Regs) { r.K, r.PC = 0xff, 0xfffe })
	list := []api.Access{read(0xfffffe), read(0xffffff), read(0xff0000)}
	wantCourse(t, api.ModeLong, api.UseRead, r, []uint8{1, 2, 3}, list, far(0x030201), 1)
	r.PC = 0xffff
	wantCourse(t, api.ModeD, api.UseRead, r, []uint8{1}, []api.Access{read(0xffffff)}, near(1), 0)
	wantStop(t, api.ModeAbs, api.UseRead, r, []uint8{1}, read(0xffffff), read(0xff0000))
}

// P7.2: in the direct page, of one that begins at a page or does not, with E and without.
func TestCourseDirect(t *testing.T) {
	page := like(func(r *api.Regs) { r.E, r.D, r.X, r.Y = true, 0x300, 0xfe, 0xfd })
	wantCourse(t, api.ModeDX, 0, page, []uint8{0x81}, fetches(1, idle()), near(0x37f), 0x8002)
	wantCourse(t, api.ModeDY, 0, page, []uint8{0x81}, fetches(1, idle()), near(0x37e), 0x8002)
	wantCourse(t, api.ModeInd, 0, page, []uint8{0xff, 1, 2}, fetches(1, read(0x3ff), read(0x300)), far(0x120201), 0x8002)
	wantCourse(t, api.ModeIndLong, 0, page, []uint8{0xfe, 1, 2, 3}, fetches(1, read(0x3fe), read(0x3ff), read(0x300)), far(0x030201), 0x8002)
	wantCourse(t, api.ModeIndLongY, 0, page, []uint8{0xff, 1, 2, 3}, fetches(1, read(0x3ff), read(0x300), read(0x301)), far(0x0302fe), 0x8002)
	wantCourse(t, api.ModeIndX, 0, page, []uint8{1, 1, 2}, fetches(1, idle(), read(0x3ff), read(0x300)), far(0x120201), 0x8002)
	wantCourse(t, api.ModeIndY, api.UseRead, page, []uint8{0xff, 2, 2}, fetches(1, read(0x3ff), read(0x300)), far(0x1202ff), 0x8002)
	odd := page
	odd.D = 0x301
	wantCourse(t, api.ModeDX, 0, odd, []uint8{0x81}, fetches(1, idle(), idle()), near(0x480), 0x8002)
	wantCourse(t, api.ModeInd, 0, odd, []uint8{0xfe, 1, 2}, fetches(1, idle(), read(0x3ff), read(0x400)), far(0x120201), 0x8002)
	wantCourse(t, api.ModeIndX, 0, odd, []uint8{0, 1, 2}, fetches(1, idle(), idle(), read(0x3ff), read(0x400)), far(0x120201), 0x8002)
	high := like(func(r *api.Regs) { r.D, r.X = 0xff80, 0x80 })
	wantCourse(t, api.ModeD, 0, high, []uint8{0x80}, fetches(1, idle()), near(0), 0x8002)
	wantCourse(t, api.ModeDX, 0, high, []uint8{0x7f}, fetches(1, idle(), idle()), near(0x7f), 0x8002)
	wantCourse(t, api.ModeIndLong, 0, high, []uint8{0x7e, 1, 2, 3}, fetches(1, idle(), read(0xfffe), read(0xffff), read(0)), far(0x030201), 0x8002)
	wide := like(func(r *api.Regs) { r.D, r.X, r.P = 0x300, 0xffff, 0 })
	wantCourse(t, api.ModeDX, 0, wide, []uint8{0xff}, fetches(1, idle()), near(0x3fe), 0x8002)
	wide.X = 0x1234
	wantCourse(t, api.ModeIndX, 0, wide, []uint8{0xff, 1, 2}, fetches(1, idle(), read(0x1633), read(0x1634)), far(0x120201), 0x8002)
}

// P7.2: the index's idle, by use, flag, and whether a page is crossed; and all 24 bits that take part.
func TestIndexed(t *testing.T) {
	for use := range uint8(8) {
		for _, p := range []uint8{0, fM, fX, 0xff, 0xff - fX} {
			for _, low := range []uint8{0x00, 0x0f, 0x10, 0xff} {
				r := like(func(r *api.Regs) { r.P, r.X, r.Y = p, 0xf0, 0xf0 })
				var then []api.Access
				if use == api.UseWrite || use == api.UseChange || p&fX == 0 || low >= 0x10 {
					then = []api.Access{idle()}
				}
				want := far(0x125600 + uint32(low) + 0xf0)
				wantCourse(t, api.ModeAbsX, use, r, []uint8{low, 0x56}, fetches(2, then...), want, 0x8003)
				wantCourse(t, api.ModeAbsY, use, r, []uint8{low, 0x56}, fetches(2, then...), want, 0x8003)
				list := fetches(1, append([]api.Access{read(7), read(8)}, then...)...)
				wantCourse(t, api.ModeIndY, use, r, []uint8{7, low, 0x56}, list, want, 0x8002)
			}
		}
	}
	r := like(func(r *api.Regs) { r.B, r.X, r.Y = 0xff, 0xff, 0xff })
	wantCourse(t, api.ModeAbsX, api.UseRead, r, []uint8{0xfe, 0xff}, fetches(2, idle()), far(0xfd), 0x8003)
	wantCourse(t, api.ModeAbsY, api.UseRead, r, []uint8{0x02, 0xff}, fetches(2, idle()), far(1), 0x8003)
	wantCourse(t, api.ModeAbsY, api.UseRead, r, []uint8{0x00, 0xff}, fetches(2), far(0xffffff), 0x8003)
	wantCourse(t, api.ModeLongX, api.UseWrite, r, []uint8{0xff, 0xff, 0xff}, fetches(3), far(0xfe), 0x8004)
	wantCourse(t, api.ModeLongX, api.UseWrite, r, []uint8{0xff, 0xff, 0x12}, fetches(3), far(0x1300fe), 0x8004)
	wantCourse(t, api.ModeIndLongY, api.UseWrite, r, []uint8{0, 0xff, 0xff, 0xff}, fetches(1, read(0), read(1), read(2)), far(0xfe), 0x8002)
	wantCourse(t, api.ModeIndY, api.UseRead, r, []uint8{0, 0xff, 0xff}, fetches(1, read(0), read(1), idle()), far(0xfe), 0x8002)
	wantCourse(t, api.ModeSY, api.UseRead, r, []uint8{0, 0xff, 0xff}, fetches(1, idle(), read(0x1ff0), read(0x1ff1), idle()), far(0xfe), 0x8002)
	wantCourse(t, api.ModeSY, api.UseRead, r, []uint8{0, 0, 0}, fetches(1, idle(), read(0x1ff0), read(0x1ff1), idle()), far(0xff00ff), 0x8002)
	wide := like(func(r *api.Regs) { r.P, r.X = 0, 0xffff })
	wantCourse(t, api.ModeAbsX, api.UseRead, wide, []uint8{0xff, 0xff}, fetches(2, idle()), far(0x13fffe), 0x8003)
}

// P7.2: beside the stack, which does not stay in its page.
func TestStack(t *testing.T) {
	r := like(func(r *api.Regs) { r.S = 0xfffe })
	wantCourse(t, api.ModeS, 0, r, []uint8{4}, fetches(1, idle()), near(2), 0x8002)
	wantCourse(t, api.ModeSY, 0, r, []uint8{1, 1, 2}, fetches(1, idle(), read(0xffff), read(0), idle()), far(0x1202f1), 0x8002)
	r.E = true
	wantCourse(t, api.ModeS, 0, r, []uint8{4}, fetches(1, idle()), near(0x202), 0x8002)
	wantCourse(t, api.ModeSY, 0, r, []uint8{1, 1, 2}, fetches(1, idle(), read(0x1ff), read(0x200), idle()), far(0x1202f1), 0x8002)
}

// P7.2: the registers are settled first; beside the mode and the use nothing of the code is asked.
func TestCourseSettles(t *testing.T) {
	r := like(func(r *api.Regs) { r.X, r.Y = 0x5510, 0x66f0 })
	wantCourse(t, api.ModeAbsX, api.UseRead, r, []uint8{0x34, 0x12}, fetches(2), far(0x121244), 0x8003)
	wantCourse(t, api.ModeDY, api.UseRead, r, []uint8{0x34}, fetches(1, idle()), near(0x124), 0x8002)
	r.P, r.E = 0, true
	wantCourse(t, api.ModeAbsX, api.UseRead, r, []uint8{0x34, 0x12}, fetches(2), far(0x121244), 0x8003)
	for _, c := range []api.Code{{}, {Code: 0xbd, Name: "LDA", Width: api.WidthM}, {Code: 0x9d, Name: "STA", Width: 99}} {
		c.Mode, c.Use = api.ModeAbsX, api.UseRead
		list, p, pc, ok := reach.Course(c, example(), []uint8{0x34, 0x12})
		if !slices.Equal(list, fetches(2)) || p != far(0x121244) || pc != 0x8003 || !ok {
			t.Errorf("Course of %+v: %x, %s, %04x, %v", c, list, told(p), pc, ok)
		}
	}
}

func wantData(t *testing.T, p api.Place, kind uint8, v uint16, wide bool, want ...api.Access) {
	t.Helper()
	if l := reach.Data(p, kind, v, wide); !slices.Equal(l, want) {
		t.Errorf("Data(%s, %d, %04x, %v): %x, want %x", told(p), kind, v, wide, l, want)
	}
}

// P7.3: reads and writes of operands, narrow and wide; other kinds are none.
func TestData(t *testing.T) {
	wantData(t, far(0x123456), api.Read, 0xabcd, false, read(0x123456))
	wantData(t, far(0x123456), api.Read, 0xabcd, true, read(0x123456), read(0x123457))
	wantData(t, far(0x123456), api.Write, 0xabcd, false, write(0x123456, 0xcd))
	wantData(t, far(0x123456), api.Write, 0xabcd, true, write(0x123456, 0xcd), write(0x123457, 0xab))
	wantData(t, near(0xffff), api.Write, 0xabcd, true, write(0xffff, 0xcd), write(0, 0xab))
	wantData(t, far(0xffff), api.Write, 0xabcd, true, write(0xffff, 0xcd), write(0x10000, 0xab))
	wantData(t, near(0x12ffff), api.Read, 0, true, read(0x12ffff), read(0x120000))
	wantData(t, far(0xffffff), api.Read, 0, true, read(0xffffff), read(0))
	wantData(t, near(0xab12ffff), api.Read, 0, true, read(0x12ffff), read(0x120000))
	wantData(t, far(0x1000000), api.Write, 1, false, write(0, 1))
	for kind := range 256 {
		if kind != api.Read && kind != api.Write {
			wantData(t, far(0x123456), uint8(kind), 0xabcd, false)
			wantData(t, near(0x123456), uint8(kind), 0xabcd, true)
		}
	}
}
