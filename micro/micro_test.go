package micro_test

import (
	"slices"
	"testing"

	"lanthorn/api"
	"lanthorn/micro"
	"lanthorn/save"
)

// idle, read and write are accesses.
func idle() api.Access                      { return api.Access{Kind: api.Idle} }
func read(addr uint32) api.Access           { return api.Access{Kind: api.Read, Addr: addr} }
func write(addr uint32, v uint8) api.Access { return api.Access{Kind: api.Write, Addr: addr, Value: v} }

// memory is bytes by addresses; those that are not there are 0.
type memory map[uint32]uint8

// board is the memory of the chapter's example, with a program from 8000 on.
func board(program ...uint8) memory {
	m := memory{0xfffd: 0x80}
	for i, v := range program {
		m[0x8000+uint32(i)] = v
	}
	return m
}

// run makes so many steps; what they did. The byte that is handed to an idle or a write is one that means much, if it is looked at.
func (m memory) run(c *micro.CPU, steps int) []api.Access {
	var l []api.Access
	for range steps {
		a := c.Next()
		l = append(l, a)
		v := uint8(0xdb)
		switch a.Kind {
		case api.Read:
			v = m[a.Addr]
		case api.Write:
			m[a.Addr] = a.Value
		}
		c.Step(v)
	}
	return l
}

// started is a processor behind its reset.
func started(m memory) *micro.CPU {
	c := micro.New()
	m.run(c, 7)
	return c
}

// wantStage asks where a processor stands.
func wantStage(t *testing.T, c *micro.CPU, mode, why uint8, at int, seen ...uint8) {
	t.Helper()
	if s := c.Stage(); s.Mode != mode || s.Why != why || s.At != at || !slices.Equal(s.Seen, seen) {
		t.Errorf("it stands at %+v, want mode %d, why %d, %d accesses, % x seen", s, mode, why, at, seen)
	}
}

func wantNext(t *testing.T, c *micro.CPU, want api.Access) {
	t.Helper()
	for range 2 {
		if got := c.Next(); got != want {
			t.Errorf("next is %x, want %x", got, want)
		}
	}
}

func wantRun(t *testing.T, got []api.Access, want ...api.Access) {
	t.Helper()
	if !slices.Equal(got, want) {
		t.Errorf("it did %x, want\n%x", got, want)
	}
}

func wantRegs(t *testing.T, c *micro.CPU, want api.Regs) {
	t.Helper()
	if got := c.Regs(); got != want {
		t.Errorf("registers %+v, want\n%+v", got, want)
	}
}

// atStart are the registers behind the example's reset.
func atStart() api.Regs { return api.Regs{S: 0x1fd, PC: 0x8000, P: 0x34, E: true} }

// P9.1, P9.2: the chapter's examples, in their order.
func TestExamples(t *testing.T) {
	m := board(0xea, 0xea, 0xcb)
	c := micro.New()
	wantNext(t, c, idle())
	wantStage(t, c, api.MicroReady, 0, 0)
	m.run(c, 7)
	wantStage(t, c, api.MicroReady, 0, 0)
	wantRegs(t, c, atStart())
	m.run(c, 1)
	wantNext(t, c, idle())
	wantStage(t, c, api.MicroRun, 0, 1, 0xea)
	m.run(c, 1)
	wantNext(t, c, read(0x008001))
	m.run(c, 5)
	wantStage(t, c, api.MicroWait, 0, 0)
	m.run(c, 9)
	wantStage(t, c, api.MicroWait, 0, 0)
	c.IRQ(true)
	m.run(c, 1)
	wantStage(t, c, api.MicroReady, 0, 0)
	m.run(c, 1)
	wantStage(t, c, api.MicroRun, 0, 1, 0)
	c.NMI()
	m.run(c, 1)
	for c.Stage().Mode == api.MicroRun {
		m.run(c, 1)
	}
	m.run(c, 1)
	wantStage(t, c, api.MicroEnter, api.WhyNMI, 1)
}

// The modes have the numbers of api, these the chapter's.
func TestNumbers(t *testing.T) {
	for i, mode := range []uint8{api.MicroReady, api.MicroRun, api.MicroEnter, api.MicroWait, api.MicroStop} {
		if int(mode) != i {
			t.Errorf("the mode %d is %d", i, mode)
		}
	}
	if api.ErrState != 90 {
		t.Error("ErrState is", api.ErrState)
	}
}

// P9.1: a new processor.
func TestNew(t *testing.T) {
	c := micro.New()
	wantRegs(t, c, api.Regs{S: 256, E: true, P: api.FlagM | api.FlagX})
	wantStage(t, c, api.MicroReady, 0, 0)
	m := board()
	wantRun(t, m.run(c, 7), idle(), idle(), idle(), idle(), idle(), read(0xfffc), read(0xfffd))
	wantRegs(t, c, atStart())
	wantNext(t, c, read(0x8000)) // neither an NMI nor another reset
}

// P9.1, R5: processors know nothing of one another.
func TestUnlike(t *testing.T) {
	m := board(0xa9, 1, 0xa9, 2)
	c, d := started(m), micro.New()
	m.run(c, 3)
	c.NMI()
	wantStage(t, d, api.MicroReady, 0, 0)
	m.run(d, 7)
	wantNext(t, d, read(0x8000))
	wantStage(t, c, api.MicroRun, 0, 1, 0xa9)
}

// P9.2: an instruction, access by access; the registers are those ahead of it till its last access; of an idle, of a write, the byte is not looked at.
func TestInstruction(t *testing.T) {
	m := board(0xee, 0x10, 0x20) // INC $2010
	m[0x2010] = 0xff
	c := started(m)
	for at, want := range []api.Access{read(0x8000), read(0x8001), read(0x8002), read(0x2010), idle(), write(0x2010, 0)} {
		wantRegs(t, c, atStart())
		wantNext(t, c, want)
		if at > 0 {
			wantStage(t, c, api.MicroRun, 0, at, []uint8{0xee, 0x10, 0x20, 0xff}[:min(at, 4)]...)
		}
		m.run(c, 1)
	}
	wantStage(t, c, api.MicroReady, 0, 0)
	wantRegs(t, c, api.Regs{S: 0x1fd, PC: 0x8003, P: 0x36, E: true})
}

// P9.2: the turn that reads the most bytes.
func TestLongest(t *testing.T) {
	m := board(0x18, 0xfb, 0xc2, 0x20, 0xb7, 0x10) // CLC, XCE, REP #$20, LDA [$10],y
	m[0x10], m[0x11], m[0x12] = 0x34, 0x12, 0x7e
	m[0x7e1234], m[0x7e1235] = 0x78, 0x56
	c := started(m)
	m.run(c, 7)
	wantRun(t, m.run(c, 6), read(0x8004), read(0x8005), read(0x10), read(0x11), read(0x12), read(0x7e1234))
	wantStage(t, c, api.MicroRun, 0, 6, 0xb7, 0x10, 0x34, 0x12, 0x7e, 0x78)
	wantRun(t, m.run(c, 1), read(0x7e1235))
	wantStage(t, c, api.MicroReady, 0, 0)
	if a := c.Regs().A; a != 0x5678 {
		t.Errorf("A is %x", a)
	}
}

// P9.2: an IRQ is entered, if the line is on and FlagI is not set, as long as it is on; what begins is told by the line as it is then.
func TestIRQ(t *testing.T) {
	m := board(0xea, 0x58, 0xea) // NOP, CLI, NOP
	m[0xffff] = 0x90
	m[0x9000] = 0x40 // RTI
	c := started(m)
	c.IRQ(true)
	wantNext(t, c, read(0x8000)) // I is set
	m.run(c, 4)
	wantNext(t, c, idle())
	wantStage(t, c, api.MicroReady, 0, 0)
	c.IRQ(false)
	wantNext(t, c, read(0x8002))
	c.IRQ(true)
	m.run(c, 1)
	wantStage(t, c, api.MicroEnter, api.WhyIRQ, 1)
	c.IRQ(false) // it is under way
	wantRun(t, m.run(c, 6), idle(), write(0x1fd, 0x80), write(0x1fc, 0x02), write(0x1fb, 0x20), read(0xfffe), read(0xffff))
	wantStage(t, c, api.MicroReady, 0, 0)
	wantRegs(t, c, api.Regs{S: 0x1fa, PC: 0x9000, P: 0x34, E: true})
	c.IRQ(true)
	wantNext(t, c, read(0x9000)) // I is set again
	m.run(c, 6)
	wantRegs(t, c, api.Regs{S: 0x1fd, PC: 0x8002, P: 0x30, E: true})
	m.run(c, 1)
	wantStage(t, c, api.MicroEnter, api.WhyIRQ, 1)
}

// P9.2: an NMI that comes within an instruction waits for its end, goes ahead of an IRQ, comes whatever FlagI is, and just once.
func TestNMI(t *testing.T) {
	m := board(0x58, 0xea) // CLI, NOP
	m[0xfffb], m[0xffff] = 0x90, 0xa0
	m[0x9000] = 0x40
	c := started(m)
	m.run(c, 1)
	c.NMI()
	c.NMI()
	c.IRQ(true)
	wantNext(t, c, idle())
	m.run(c, 1)
	wantStage(t, c, api.MicroReady, 0, 0)
	m.run(c, 7)
	wantRegs(t, c, api.Regs{S: 0x1fa, PC: 0x9000, P: 0x34, E: true})
	wantNext(t, c, read(0x9000)) // none waits any more
	m.run(c, 1)
	c.NMI()
	m.run(c, 6)
	wantStage(t, c, api.MicroEnter, api.WhyNMI, 1) // ahead of the IRQ that RTI has let come
	c.NMI()
	m.run(c, 6)
	wantStage(t, c, api.MicroReady, 0, 0)
	m.run(c, 1)
	wantStage(t, c, api.MicroEnter, api.WhyNMI, 1) // one that came while another one was entered
}

// P9.1: a reset drops what is under way, and an NMI; the registers are those ahead of it, the IRQ line stays.
func TestReset(t *testing.T) {
	m := board(0x58, 0xa9, 1) // CLI, LDA #1
	m[0xffff] = 0x90
	c := started(m)
	m.run(c, 3)
	before := c.Regs()
	c.NMI()
	c.IRQ(true)
	c.Reset()
	wantRegs(t, c, before)
	wantStage(t, c, api.MicroReady, 0, 0)
	wantRun(t, m.run(c, 7), idle(), idle(), idle(), idle(), idle(), read(0xfffc), read(0xfffd))
	wantRegs(t, c, api.Regs{S: 0x1fa, PC: 0x8000, P: 0x34, E: true})
	wantRun(t, m.run(c, 2), read(0x8000), idle())
	m.run(c, 1)
	wantStage(t, c, api.MicroEnter, api.WhyIRQ, 1)
	c.Reset()
	c.Reset()
	m.run(c, 3)
	wantStage(t, c, api.MicroEnter, api.WhyReset, 3)
	c.Reset()
	wantStage(t, c, api.MicroReady, 0, 0)
	wantRun(t, m.run(c, 7), idle(), idle(), idle(), idle(), idle(), read(0xfffc), read(0xfffd))
	wantRegs(t, c, api.Regs{S: 0x1f7, PC: 0x8000, P: 0x34, E: true})
}

// P9.1, P9.2: an NMI that comes behind Reset waits till the reset is through.
func TestNMIBehindReset(t *testing.T) {
	m := board()
	m[0xfffb] = 0x90
	c := micro.New()
	c.NMI()
	wantRun(t, m.run(c, 8), idle(), idle(), idle(), idle(), idle(), read(0xfffc), read(0xfffd), idle())
	wantStage(t, c, api.MicroEnter, api.WhyNMI, 1)
	m.run(c, 6)
	wantNext(t, c, read(0x9000))
}

// P9.2: who waits goes on by an NMI, which then is entered, or by the line, whatever FlagI is; by neither it waits.
func TestWait(t *testing.T) {
	for _, by := range []string{"", "NMI", "IRQ", "IRQ, I 0", "reset", "IRQ off again"} {
		m := board(0x78, 0xcb, 0xea)
		if by == "IRQ, I 0" {
			m = board(0x58, 0xcb, 0xea)
		}
		c := started(m)
		m.run(c, 5)
		wantStage(t, c, api.MicroWait, 0, 0)
		wantRun(t, m.run(c, 3), idle(), idle(), idle())
		wantStage(t, c, api.MicroWait, 0, 0)
		switch by {
		case "NMI":
			c.NMI()
		case "reset":
			c.Reset()
		case "IRQ", "IRQ, I 0":
			c.IRQ(true)
		case "IRQ off again":
			c.IRQ(true)
			c.IRQ(false)
		}
		wantNext(t, c, idle())
		if by != "reset" {
			wantStage(t, c, api.MicroWait, 0, 0)
		}
		m.run(c, 1)
		switch by {
		case "NMI", "IRQ, I 0":
			wantStage(t, c, api.MicroReady, 0, 0)
			wantNext(t, c, idle())
			m.run(c, 1)
			wantStage(t, c, api.MicroEnter, map[string]uint8{"NMI": api.WhyNMI, "IRQ, I 0": api.WhyIRQ}[by], 1)
		case "IRQ":
			wantStage(t, c, api.MicroReady, 0, 0)
			wantNext(t, c, read(0x8002))
		case "reset":
			wantStage(t, c, api.MicroEnter, api.WhyReset, 1)
		default:
			wantStage(t, c, api.MicroWait, 0, 0)
		}
	}
}

// P9.2: an NMI that came ahead of WAI's end is entered behind a single idle.
func TestWaitNot(t *testing.T) {
	m := board(0xcb)
	c := started(m)
	m.run(c, 2)
	c.NMI()
	m.run(c, 1)
	wantStage(t, c, api.MicroWait, 0, 0)
	m.run(c, 1)
	wantStage(t, c, api.MicroReady, 0, 0)
	m.run(c, 1)
	wantStage(t, c, api.MicroEnter, api.WhyNMI, 1)
}

// P9.4: a stopped one idles, whatever comes, until Reset.
func TestStop(t *testing.T) {
	m := board(0x58, 0xdb)
	c := started(m)
	m.run(c, 5)
	wantStage(t, c, api.MicroStop, 0, 0)
	regs := c.Regs()
	c.NMI()
	c.IRQ(true)
	for range 50 {
		wantNext(t, c, idle())
		m.run(c, 1)
		wantStage(t, c, api.MicroStop, 0, 0)
		wantRegs(t, c, regs)
	}
	c.Reset()
	m.run(c, 7)
	wantRegs(t, c, api.Regs{S: 0x1fa, PC: 0x8000, P: 0x34, E: true})
	wantNext(t, c, read(0x8000)) // the NMI waits no more
}

// R3: what Stage tells is new memory.
func TestStageIsACopy(t *testing.T) {
	m := board(0xad, 0x34, 0x12)
	c := started(m)
	m.run(c, 2)
	s := c.Stage()
	clear(s.Seen[:cap(s.Seen)])
	_ = append(s.Seen[:0], 9, 9, 9)
	wantStage(t, c, api.MicroRun, 0, 2, 0xad, 0x34)
	m.run(c, 1)
	wantNext(t, c, read(0x1234))
	s = c.Stage()
	m.run(c, 1)
	if !slices.Equal(s.Seen, []uint8{0xad, 0x34, 0x12}) {
		t.Errorf("what was told has changed: % x", s.Seen)
	}
}

// R4: a nil processor.
func TestNil(t *testing.T) {
	var c *micro.CPU
	c.Reset()
	c.NMI()
	c.IRQ(true)
	c.Step(5)
	wantNext(t, c, api.Access{})
	wantRegs(t, c, api.Regs{})
	wantStage(t, c, 0, 0, 0)
	w := save.NewWriter()
	c.Save(w)
	if b, e := w.Done(); len(b) != 13 || e != api.OK {
		t.Errorf("Save of nil puts % x, error %d", b, e)
	}
	r := reader(t, bodyOf(t, micro.New()))
	left := r.Left()
	if e := c.Load(r); e != api.ErrNil || r.Left() != left {
		t.Errorf("Load of nil: error %d, %d left of %d", e, r.Left(), left)
	}
}
