package micro_test

import (
	"slices"
	"testing"

	"lanthorn/api"
	"lanthorn/micro"
	"lanthorn/save"
)

// saved is a state that is put by hand, in the chapter's order.
type saved struct {
	words            [6]uint16
	bytes            [3]uint8
	e                uint8
	mode, why        uint8
	reset, nmi, irq  uint8
	at               uint8
	seen             []uint8
	size, more, less int // how many more bytes the row says to have than it has; how many noughts stand behind; how many bytes lack at the end
}

func (s saved) body() []uint8 {
	var b []uint8
	for _, v := range s.words {
		b = append(b, uint8(v), uint8(v>>8))
	}
	b = append(b, s.bytes[:]...)
	b = append(b, s.e, s.mode, s.why, s.reset, s.nmi, s.irq, s.at)
	b = append(b, uint8(len(s.seen)+s.size), 0, 0, 0)
	b = append(b, s.seen...)
	return append(b, make([]uint8, s.more)...)[:len(b)+s.more-s.less]
}

// ready is a state of registers of sixteen bits, all unlike; within one within LDA $1234 there, two accesses carried out.
func ready() saved {
	return saved{words: [6]uint16{0x1122, 0x3344, 0x5566, 0x7788, 0x99aa, 0xbbcc}, bytes: [3]uint8{0xdd, 0xee, 0x01}}
}

func within() saved {
	s := ready()
	s.mode, s.at, s.seen = api.MicroRun, 2, []uint8{0xad, 0x34}
	return s
}

// of is a state, changed.
func of(s saved, change func(s *saved)) saved {
	change(&s)
	return s
}

// P9.3: what is put, byte by byte.
func TestPut(t *testing.T) {
	m := board(0xa9, 0x55, 0x18, 0xfb, 0xc2, 0x20, 0xad, 0x34, 0x12)
	c := started(m)
	m.run(c, 2+2+2+3+2)
	c.IRQ(true)
	c.NMI()
	want := []uint8{0x55, 0, 0, 0, 0, 0, 0xfd, 1, 0, 0, 6, 0x80, 0, 0, 0x15, 0, api.MicroRun, 0, 0, 1, 1, 2, 2, 0, 0, 0, 0xad, 0x34}
	if got := bodyOf(t, c); !slices.Equal(got, want) {
		t.Errorf("% x, want\n% x", got, want)
	}
	c.Reset()
	want = []uint8{0x55, 0, 0, 0, 0, 0, 0xfd, 1, 0, 0, 6, 0x80, 0, 0, 0x15, 0, api.MicroReady, 0, 1, 0, 1, 0, 0, 0, 0, 0}
	if got := bodyOf(t, c); !slices.Equal(got, want) {
		t.Errorf("behind Reset: % x, want\n% x", got, want)
	}
}

// P9.3: what is taken, value by value.
func TestTake(t *testing.T) {
	c := micro.New()
	if e := c.Load(reader(t, within().body())); e != api.OK {
		t.Fatal("Load: error", e)
	}
	wantRegs(t, c, api.Regs{A: 0x1122, X: 0x3344, Y: 0x5566, S: 0x7788, D: 0x99aa, PC: 0xbbcc, B: 0xdd, K: 0xee, P: 1})
	wantStage(t, c, api.MicroRun, 0, 2, 0xad, 0x34)
	wantNext(t, c, read(0xeebbce))
	c.Step(0x12)
	wantNext(t, c, read(0xdd1234))
	s := of(ready(), func(s *saved) { s.e, s.words[1], s.words[2], s.words[3], s.bytes[2] = 1, 0x33, 0x55, 0x1ff, 0x35 })
	if e := c.Load(reader(t, s.body())); e != api.OK {
		t.Fatal("Load: error", e)
	}
	wantRegs(t, c, api.Regs{A: 0x1122, X: 0x33, Y: 0x55, S: 0x1ff, D: 0x99aa, PC: 0xbbcc, B: 0xdd, K: 0xee, P: 0x35, E: true})
	wantStage(t, c, api.MicroReady, 0, 0)
}

// P9.3: each of the three lines is taken as its own, and what was there goes.
func TestTakeLines(t *testing.T) {
	for lines := range uint8(8) {
		s := ready()
		s.reset, s.nmi, s.irq = lines&1, lines>>1&1, lines>>2
		c := micro.New()
		c.NMI()
		c.IRQ(true)
		if e := c.Load(reader(t, s.body())); e != api.OK {
			t.Fatal("Load: error", e)
		}
		c.Step(0)
		switch {
		case s.reset == 1:
			wantStage(t, c, api.MicroEnter, api.WhyReset, 1)
		case s.nmi == 1:
			wantStage(t, c, api.MicroEnter, api.WhyNMI, 1)
		case s.irq == 1:
			wantStage(t, c, api.MicroEnter, api.WhyIRQ, 1)
		default:
			wantStage(t, c, api.MicroRun, 0, 1, 0)
		}
	}
}

// P9.3: states that can be, at their edges.
func TestCanBe(t *testing.T) {
	for what, s := range map[string]saved{
		"ready":                   ready(),
		"it waits":                of(ready(), func(s *saved) { s.mode = api.MicroWait }),
		"it waits, both lines on": of(ready(), func(s *saved) { s.mode, s.nmi, s.irq = api.MicroWait, 1, 1 }),
		"it has stopped":          of(ready(), func(s *saved) { s.mode, s.nmi, s.irq = api.MicroStop, 1, 1 }),
		"within an instruction":   within(),
		"an NMI's entering":       of(ready(), func(s *saved) { s.mode, s.why, s.at = api.MicroEnter, api.WhyNMI, 1 }),
		"at the last access":      of(ready(), func(s *saved) { s.mode, s.why, s.at, s.seen = api.MicroEnter, api.WhyNMI, 7, []uint8{9} }),
		"an IRQ's, I being set":   of(ready(), func(s *saved) { s.mode, s.why, s.at, s.bytes[2] = api.MicroEnter, api.WhyIRQ, 1, 4 }),
		"a reset's":               of(ready(), func(s *saved) { s.mode, s.at, s.seen = api.MicroEnter, 6, []uint8{9} }),
		"narrow X and Y":          of(ready(), func(s *saved) { s.bytes[2], s.words[1], s.words[2] = api.FlagX, 0xff, 0xff }),
		"something behind":        of(ready(), func(s *saved) { s.more = 3 }),
		"at a write":              of(ready(), func(s *saved) { s.mode, s.at, s.seen = api.MicroRun, 2, []uint8{0x48} }),
		"at an idle":              of(ready(), func(s *saved) { s.mode, s.at, s.seen = api.MicroRun, 1, []uint8{0xea} }),
	} {
		c := micro.New()
		r := reader(t, s.body())
		if e := c.Load(r); e != api.OK || r.Left() != s.more {
			t.Errorf("%s: error %d, %d left", what, e, r.Left())
		}
		if got := bodyOf(t, c); !slices.Equal(got, s.body()[:len(s.body())-s.more]) {
			t.Errorf("%s: put again it is % x, was % x", what, got, s.body())
		}
	}
}

// P9.3: what is refused, of several errors the first; the processor has not changed.
func TestRefused(t *testing.T) {
	for _, x := range []struct {
		what string
		s    saved
		want api.Errno
	}{
		{"E without M", of(ready(), func(s *saved) { s.e, s.words[1], s.words[2], s.words[3], s.bytes[2] = 1, 0, 0, 0x100, 0x10 }), api.ErrState},
		{"E without X", of(ready(), func(s *saved) { s.e, s.words[1], s.words[2], s.words[3], s.bytes[2] = 1, 0, 0, 0x100, 0x20 }), api.ErrState},
		{"E, S below 100", of(ready(), func(s *saved) { s.e, s.words[1], s.words[2], s.words[3], s.bytes[2] = 1, 0, 0, 0xff, 0x30 }), api.ErrState},
		{"E, S 200", of(ready(), func(s *saved) { s.e, s.words[1], s.words[2], s.words[3], s.bytes[2] = 1, 0, 0, 0x200, 0x30 }), api.ErrState},
		{"a narrow X above FF", of(ready(), func(s *saved) { s.bytes[2], s.words[1], s.words[2] = api.FlagX, 0x100, 0 }), api.ErrState},
		{"a narrow Y above FF", of(ready(), func(s *saved) { s.bytes[2], s.words[1], s.words[2] = api.FlagX, 0, 0x100 }), api.ErrState},
		{"the mode 5", of(ready(), func(s *saved) { s.mode = 5 }), api.ErrState},
		{"the mode 255", of(ready(), func(s *saved) { s.mode = 255 }), api.ErrState},
		{"the mode 5, within", of(within(), func(s *saved) { s.mode = 5 }), api.ErrState},
		{"why, ready", of(ready(), func(s *saved) { s.why = 1 }), api.ErrState},
		{"why, waiting", of(ready(), func(s *saved) { s.mode, s.why = api.MicroWait, 2 }), api.ErrState},
		{"why, stopped", of(ready(), func(s *saved) { s.mode, s.why = api.MicroStop, 3 }), api.ErrState},
		{"why, within an instruction", of(within(), func(s *saved) { s.why = 1 }), api.ErrState},
		{"another why", of(ready(), func(s *saved) { s.mode, s.why, s.at = api.MicroEnter, 3, 1 }), api.ErrState},
		{"a reset to come, within an instruction", of(within(), func(s *saved) { s.reset = 1 }), api.ErrState},
		{"a reset to come, within a reset", of(ready(), func(s *saved) { s.mode, s.at, s.reset = api.MicroEnter, 1, 1 }), api.ErrState},
		{"a reset to come, waiting", of(ready(), func(s *saved) { s.mode, s.reset = api.MicroWait, 1 }), api.ErrState},
		{"a reset to come, stopped", of(ready(), func(s *saved) { s.mode, s.reset = api.MicroStop, 1 }), api.ErrState},
		{"no access, within an instruction", of(ready(), func(s *saved) { s.mode = api.MicroRun }), api.ErrState},
		{"no access, within an entering", of(ready(), func(s *saved) { s.mode = api.MicroEnter }), api.ErrState},
		{"an access, ready", of(ready(), func(s *saved) { s.at = 1 }), api.ErrState},
		{"an access and a byte, ready", of(within(), func(s *saved) { s.mode = api.MicroReady }), api.ErrState},
		{"an access, waiting", of(ready(), func(s *saved) { s.mode, s.at = api.MicroWait, 1 }), api.ErrState},
		{"an access, stopped", of(ready(), func(s *saved) { s.mode, s.at = api.MicroStop, 1 }), api.ErrState},
		{"a byte, ready", of(ready(), func(s *saved) { s.seen = []uint8{0} }), api.ErrState},
		{"a byte, waiting", of(ready(), func(s *saved) { s.mode, s.seen = api.MicroWait, []uint8{0} }), api.ErrState},
		{"a byte, stopped", of(ready(), func(s *saved) { s.mode, s.seen = api.MicroStop, []uint8{0} }), api.ErrState},
		{"the code not seen", of(within(), func(s *saved) { s.at, s.seen = 1, nil }), api.ErrState},
		{"a byte too few", of(within(), func(s *saved) { s.at = 3 }), api.ErrState},
		{"a byte too many", of(within(), func(s *saved) { s.at = 1 }), api.ErrState},
		{"at the end of a turn", of(within(), func(s *saved) { s.at, s.seen = 5, []uint8{0xad, 0x34, 0x12, 5, 6} }), api.ErrState},
		{"at the end, by an idle", of(ready(), func(s *saved) { s.mode, s.at, s.seen = api.MicroRun, 2, []uint8{0xea} }), api.ErrState},
		{"far behind the end", of(within(), func(s *saved) { s.at = 255 }), api.ErrState},
		{"at the end of an entering", of(ready(), func(s *saved) { s.mode, s.why, s.at, s.seen = api.MicroEnter, 1, 8, []uint8{1, 2} }), api.ErrState},
		{"a byte within an NMI's idles", of(ready(), func(s *saved) { s.mode, s.why, s.at, s.seen = api.MicroEnter, 1, 1, []uint8{1} }), api.ErrState},
		{"16 bytes", of(within(), func(s *saved) { s.seen = make([]uint8, 16) }), api.ErrState},
		{"17 bytes", of(within(), func(s *saved) { s.seen = make([]uint8, 17) }), api.ErrLarge},
		{"a row that ends too early", of(within(), func(s *saved) { s.size = 1 }), api.ErrEnd},
		{"a flag E of 2", of(ready(), func(s *saved) { s.e = 2 }), api.ErrFlag},
		{"a reset of 2", of(ready(), func(s *saved) { s.reset = 2 }), api.ErrFlag},
		{"an NMI of 2", of(ready(), func(s *saved) { s.nmi = 2 }), api.ErrFlag},
		{"a line of 255", of(ready(), func(s *saved) { s.irq = 255 }), api.ErrFlag},
		{"the mode 5, then a flag of 2", of(ready(), func(s *saved) { s.mode, s.irq = 5, 2 }), api.ErrFlag},
		{"the mode 5, then 17 bytes", of(ready(), func(s *saved) { s.mode, s.seen = 5, make([]uint8, 17) }), api.ErrLarge},
		{"a flag of 2, then 17 bytes", of(ready(), func(s *saved) { s.nmi, s.seen = 2, make([]uint8, 17) }), api.ErrFlag},
		{"unsettled, then an end", of(ready(), func(s *saved) { s.e, s.less = 1, 1 }), api.ErrEnd},
	} {
		wantRefused(t, x.what, x.s.body(), x.want)
	}
	for n := range len(within().body()) {
		wantRefused(t, "the first bytes alone", within().body()[:n], api.ErrEnd)
	}
}

// wantRefused asks that a processor refuses to load a body, and stays as it was.
func wantRefused(t *testing.T, what string, body []uint8, want api.Errno) {
	t.Helper()
	m := board(0x6e, 0x10, 0x20)
	c := started(m)
	m.run(c, 2)
	c.NMI()
	before := bodyOf(t, c)
	if e := c.Load(reader(t, body)); e != want {
		t.Errorf("%s: error %d, want %d", what, e, want)
	}
	if !slices.Equal(bodyOf(t, c), before) {
		t.Errorf("%s: the processor has changed", what)
	}
	wantNext(t, c, read(0x8002))
	wantRun(t, m.run(c, 4), read(0x8002), read(0x2010), idle(), write(0x2010, 0))
	wantNext(t, c, idle())
}

// P9.3: of a nil reader; within a part, the end of which is the reader's end.
func TestLoadReaders(t *testing.T) {
	c := micro.New()
	before := bodyOf(t, c)
	if e := c.Load(nil); e != api.ErrNil || !slices.Equal(bodyOf(t, c), before) {
		t.Error("Load of a nil reader: error", e)
	}
	body := ready().body()
	for less := range 3 {
		size := len(body) - less
		r := reader(t, append(append([]uint8{9, uint8(size), 0, 0, 0}, body[:size]...), make([]uint8, 40)...))
		r.Open(9)
		want := api.OK
		if less > 0 {
			want = api.ErrEnd
		}
		if e := c.Load(r); e != want {
			t.Errorf("Load within a part of %d less: error %d, want %d", less, e, want)
		}
	}
}

// P9.3, R7: Save does not change the processor, and puts behind what was put; of a nil writer it puts nothing.
func TestSaveAgain(t *testing.T) {
	m := board(0xad, 0x34, 0x12)
	c := started(m)
	m.run(c, 2)
	c.Save(nil)
	w := save.NewWriter()
	w.Byte(7)
	c.Save(w)
	c.Save(w)
	b, _ := w.Done()
	body := bodyOf(t, c)
	if want := slices.Concat([]uint8{7}, body, body); !slices.Equal(b[13:], want) {
		t.Errorf("% x, want\n% x", b[13:], want)
	}
	wantStage(t, c, api.MicroRun, 0, 2, 0xad, 0x34)
	wantNext(t, c, read(0x8002))
}
