package player_test

import (
	"bytes"
	"math"
	"slices"
	"testing"

	"lanthorn/api"
	"lanthorn/player"
)

// idle, read and write are accesses.
func idle() api.Access                      { return api.Access{Kind: api.Idle} }
func read(addr uint32) api.Access           { return api.Access{Kind: api.Read, Addr: addr} }
func write(addr uint32, v uint8) api.Access { return api.Access{Kind: api.Write, Addr: addr, Value: v} }

// memoryOf is a memory with a program from 0200 on; the rest is 0.
func memoryOf(program ...uint8) []uint8 {
	m := make([]uint8, 65536)
	copy(m[0x200:], program)
	return m
}

// at0200 are registers with A 5, ahead of that program.
func at0200() api.Pegs { return api.Pegs{A: 5, Pc: 0x200} }

func wantNext(t *testing.T, p *player.Player, want api.Access) {
	t.Helper()
	for range 2 {
		if got := p.Next(); got != want {
			t.Errorf("next is %X, want %X", got, want)
		}
	}
}

// wantStep asks what a step does, which Next has told.
func wantStep(t *testing.T, p *player.Player, v uint8, want api.Access) {
	t.Helper()
	wantNext(t, p, want)
	if got := p.Step(v); got != want {
		t.Errorf("the step did %X, want %X", got, want)
	}
}

func wantRun(t *testing.T, p *player.Player, memory []uint8, n int, want ...api.Access) {
	t.Helper()
	if got, e := p.Run(memory, n); e != api.OK || !slices.Equal(got, want) {
		t.Errorf("Run of %d: error %d, it did %X, want\n%X", n, e, got, want)
	}
}

// wantStand asks for the registers, and how many accesses were carried out.
func wantStand(t *testing.T, p *player.Player, regs api.Pegs, done int) {
	t.Helper()
	if p.Pegs() != regs || p.Done() != done {
		t.Errorf("%+v, %d done, want %+v, %d", p.Pegs(), p.Done(), regs, done)
	}
}

// P12.1 to P12.4: the chapter's examples, in their order.
func TestExamples(t *testing.T) {
	m := memoryOf(0xc4, 0x10)
	p := player.New(at0200())
	wantNext(t, p, read(0x200))
	wantRun(t, p, m, 3, read(0x200), read(0x201), idle())
	wantStand(t, p, at0200(), 3)
	wantNext(t, p, write(0x10, 5))
	if got := p.Step(9); got != write(0x10, 5) {
		t.Errorf("the step did %X", got)
	}
	wantStand(t, p, api.Pegs{A: 5, Pc: 0x202}, 0)
	if m[0x10] != 0 {
		t.Error("Step has written", m[0x10])
	}
	for _, x := range []struct {
		memory []uint8
		n      int
	}{{m, -1}, {m[:65535], 3}} {
		if l, e := p.Run(x.memory, x.n); e != api.ErrArg || len(l) > 0 {
			t.Errorf("Run of %d bytes, %d cycles: %X, error %d", len(x.memory), x.n, l, e)
		}
	}
	if e := p.Load(reader(t, saved{pc: 0x200, done: 2, seen: []uint8{0xc4}}.part())); e != api.ErrPlayer {
		t.Error("Load: error", e)
	}
}

// The numbers of the chapter, and the limit.
func TestNumbers(t *testing.T) {
	if api.ErrPlayer != 120 || api.MaxPlay != 1<<20 {
		t.Error(api.ErrPlayer, api.MaxPlay)
	}
}

// P12.1: a new player has just the registers given, such as can't be told from a memory, too, and stands ahead of an instruction.
func TestNew(t *testing.T) {
	for _, r := range []api.Pegs{
		{},
		{A: 1, X: 2, Y: 3, S: 4, Psw: 5, Pc: 0x0607},
		{A: 0xff, X: 0xff, Y: 0xff, S: 0xff, Psw: 0xff, Pc: 0xffff},
	} {
		p := player.New(r)
		wantStand(t, p, r, 0)
		wantNext(t, p, read(uint32(r.Pc)))
		r.Halt = true
		p = player.New(r)
		wantStand(t, p, r, 0)
		wantNext(t, p, idle())
	}
}

// P12.1, P12.2: step by step, a read getting its byte, and nothing else looking at the one that is handed in; the registers ahead of the instruction stay till its last access.
func TestSteps(t *testing.T) {
	p := player.New(api.Pegs{A: 5, X: 7, Y: 9, S: 0xef, Pc: 0x200})
	was := p.Pegs()
	for i, x := range []struct {
		v    uint8
		want api.Access
	}{
		{0x3f, read(0x200)}, {0x34, read(0x201)}, {0x12, read(0x202)}, // CALL !1234
		{0xff, idle()}, {0xff, idle()}, {0xff, idle()},
		{0xff, write(0x1ef, 2)}, {0xff, write(0x1ee, 3)},
	} {
		wantStand(t, p, was, i)
		wantStep(t, p, x.v, x.want)
	}
	was.S, was.Pc = 0xed, 0x1234
	wantStand(t, p, was, 0)
	for i, x := range []struct {
		v    uint8
		want api.Access
	}{
		{0x97, read(0x1234)}, {0x40, read(0x1235)}, // ADC A,[40]+Y
		{0xff, idle()}, {0xfe, read(0x40)}, {0xff, read(0x41)}, {0x81, read(0x0007)},
	} {
		wantStand(t, p, was, i)
		wantStep(t, p, x.v, x.want)
	}
	was.A, was.Psw, was.Pc = 0x86, 0x80, 0x1236
	wantStand(t, p, was, 0)
	wantStep(t, p, 0xef, read(0x1236)) // SLEEP
	wantStep(t, p, 0xff, idle())
	wantStand(t, p, was, 2)
	wantStep(t, p, 0xff, idle())
	was.Pc, was.Halt = 0x1237, true
	for range 20 {
		wantStand(t, p, was, 0)
		wantStep(t, p, 0x00, idle())
	}
}

// P12.1: what a branch does hangs on the byte that was read, not on the memory.
func TestBranch(t *testing.T) {
	for _, x := range []struct {
		byte uint8
		pc   uint16
		idle int
	}{{5, 0x203, 2}, {6, 0x213, 4}} {
		p := player.New(at0200())
		wantStep(t, p, 0x2e, read(0x200)) // CBNE 80,0213
		wantStep(t, p, 0x80, read(0x201))
		wantStep(t, p, 0x10, read(0x202))
		wantStep(t, p, 0xff, idle())
		wantStep(t, p, x.byte, read(0x80))
		for p.Done() > 0 {
			wantStep(t, p, 0xff, idle())
			x.idle--
		}
		wantStand(t, p, api.Pegs{A: 5, Pc: x.pc}, 0)
		if x.idle != 2 { // of which none stands behind where it does not branch
			t.Errorf("%d idles lack", x.idle)
		}
	}
}

// P12.3: a write puts its Value, nothing else of the memory changes, and what comes behind reads it: its own program, too.
func TestRunWrites(t *testing.T) {
	m := memoryOf(0xe8, 0xbc, 0xc5, 0x05, 0x02) // MOV A,#BC; MOV !0205,A; then what was written: INC A
	want := bytes.Clone(m)
	p := player.New(at0200())
	wantRun(t, p, m, 9, read(0x200), read(0x201), read(0x202), read(0x203), read(0x204), idle(), write(0x205, 0xbc), read(0x205), idle())
	wantStand(t, p, api.Pegs{A: 0xbd, Psw: 0x80, Pc: 0x206}, 0)
	want[0x205] = 0xbc
	if !bytes.Equal(m, want) {
		t.Error("the memory is another one")
	}
	m = memoryOf(0x3a, 0xff) // INCW FF: both bytes, round the page's end
	m[0xff], m[0] = 0xff, 0x12
	p = player.New(at0200())
	wantRun(t, p, m, 5, read(0x200), read(0x201), read(0xff), read(0), write(0xff, 0))
	if m[0xff] != 0 || m[0] != 0x12 {
		t.Errorf("behind the first write: %02X %02X", m[0xff], m[0])
	}
	wantRun(t, p, m, 1, write(0, 0x13))
	if m[0] != 0x13 {
		t.Errorf("behind the second one: %02X", m[0])
	}
}

// P12.3: the addresses' ends, at which the program goes on at 0.
func TestRunEnds(t *testing.T) {
	m := make([]uint8, 65536)
	m[0xffff], m[0], m[1] = 0xc5, 0xff, 0xff // MOV !FFFF,A
	p := player.New(api.Pegs{A: 0x5a, Pc: 0xffff})
	wantRun(t, p, m, 5, read(0xffff), read(0), read(1), idle(), write(0xffff, 0x5a))
	if m[0xffff] != 0x5a {
		t.Errorf("%02X", m[0xffff])
	}
	wantStand(t, p, api.Pegs{A: 0x5a, Pc: 2}, 0)
}

// P12.3: no cycles; as many as may be; one more.
func TestRunLimits(t *testing.T) {
	m := memoryOf(0x2f, 0xfe) // BRA 0200
	p := player.New(at0200())
	wantRun(t, p, m, 0)
	wantStand(t, p, at0200(), 0)
	l, e := p.Run(m, api.MaxPlay)
	if e != api.OK || len(l) != api.MaxPlay {
		t.Errorf("Run of MaxPlay: %d, error %d", len(l), e)
	}
	for i, a := range l {
		if want := []api.Access{read(0x200), read(0x201), idle(), idle()}[i%4]; a != want {
			t.Fatalf("cycle %d: %X, want %X", i, a, want)
		}
	}
	wantStand(t, p, at0200(), 0)
}

// P12.3: of several errors the first one; with an error nothing has changed, neither the player nor the memory.
func TestRunRefused(t *testing.T) {
	m := memoryOf(0xc4, 0x10)
	p := player.New(at0200())
	wantRun(t, p, m, 3, read(0x200), read(0x201), idle())
	before, body := bytes.Clone(m), bodyOf(t, p)
	for _, x := range []struct {
		what   string
		p      *player.Player
		memory []uint8
		n      int
		want   api.Errno
	}{
		{"no player", nil, m, 1, api.ErrNil},
		{"no player, nothing right", nil, nil, -1, api.ErrNil},
		{"no memory", p, nil, 1, api.ErrArg},
		{"an empty memory, no cycle", p, []uint8{}, 0, api.ErrArg},
		{"a byte too few", p, m[:65535], 1, api.ErrArg},
		{"a byte too many", p, make([]uint8, 65537), 1, api.ErrArg},
		{"below 0", p, m, -1, api.ErrArg},
		{"far below 0", p, m, math.MinInt, api.ErrArg},
		{"one too many", p, m, api.MaxPlay + 1, api.ErrLarge},
		{"far too many", p, m, math.MaxInt, api.ErrLarge},
		{"a byte too few, one cycle too many", p, m[:65535], api.MaxPlay + 1, api.ErrArg},
	} {
		if l, e := x.p.Run(x.memory, x.n); e != x.want || len(l) > 0 {
			t.Errorf("%s: %d accesses, error %d, want %d", x.what, len(l), e, x.want)
		}
		if !bytes.Equal(m, before) || !bytes.Equal(bodyOf(t, p), body) {
			t.Errorf("%s: something has changed", x.what)
		}
	}
	wantRun(t, p, m, 1, write(0x10, 5))
}

// P12.1 to P12.4, R4: of a player that is not there.
func TestNil(t *testing.T) {
	var p *player.Player
	wantStep(t, p, 9, idle())
	wantStand(t, p, api.Pegs{}, 0)
	if b := bodyOf(t, p); len(b) > 0 {
		t.Errorf("Save puts % X", b)
	}
	p.Save(nil)
	r := reader(t, saved{}.part())
	left := r.Left()
	if e := p.Load(r); e != api.ErrNil || r.Left() != left {
		t.Error("Load: error", e)
	}
	if e := p.Load(nil); e != api.ErrNil {
		t.Error("Load of nothing: error", e)
	}
}

// R3, R5: what Run answers is new memory; players know nothing of one another.
func TestUnlike(t *testing.T) {
	m := memoryOf(0xe8, 0x11, 0xc4, 0x10) // MOV A,#11; MOV 10,A
	p, q := player.New(at0200()), player.New(at0200())
	first, _ := p.Run(m, 3)
	clear(first[:cap(first)])
	wantStand(t, q, at0200(), 0)
	wantNext(t, q, read(0x200))
	q.Step(0xe8)
	q.Step(0x22)
	wantStand(t, p, api.Pegs{A: 0x11, Pc: 0x202}, 1)
	second, _ := p.Run(m, 2)
	clear(second[:cap(second)])
	wantRun(t, p, m, 1, write(0x10, 0x11))
	q.Step(0xc4)
	q.Step(0x10)
	q.Step(0)
	wantNext(t, q, write(0x10, 0x22))
}
