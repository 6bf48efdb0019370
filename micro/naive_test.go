package micro_test

import (
	"math/rand"
	"slices"
	"testing"

	"lanthorn/api"
	"lanthorn/exec"
	"lanthorn/micro"
	"lanthorn/reach"
	"lanthorn/save"
)

// naive is the chapter once more: it keeps what the Words say that a processor has, and works everything out anew each time.
type naive struct {
	regs            api.Regs
	stage           api.Stage
	reset, nmi, irq bool
}

func newNaive() naive {
	return naive{regs: api.Regs{S: 256, E: true, P: 0x30}, reset: true}
}

// turn is the turn that is under way, or would begin; which mode and why it has.
func (n naive) turn() (api.Turn, uint8, uint8) {
	s := n.stage
	switch {
	case s.Mode == api.MicroRun, s.Mode == api.MicroReady && !n.reset && !n.nmi && !(n.irq && n.regs.P&4 == 0):
		return exec.Course(n.regs, s.Seen), api.MicroRun, 0
	case s.Mode == api.MicroEnter:
		return exec.Enter(s.Why, n.regs, s.Seen), api.MicroEnter, s.Why
	case s.Mode != api.MicroReady:
		return api.Turn{List: []api.Access{{}}}, s.Mode, 0
	}
	why := uint8(api.WhyIRQ)
	if n.nmi {
		why = api.WhyNMI
	}
	if n.reset {
		why = api.WhyReset
	}
	return exec.Enter(why, n.regs, nil), api.MicroEnter, why
}

func (n naive) next() api.Access {
	turn, _, _ := n.turn()
	return turn.List[n.stage.At]
}

// step is the processor behind a step.
func (n naive) step(v uint8) naive {
	switch n.stage.Mode {
	case api.MicroStop:
		return n
	case api.MicroWait:
		if n.nmi || n.irq {
			n.stage.Mode = api.MicroReady
		}
		return n
	}
	a := n.next()
	_, mode, why := n.turn()
	if n.stage.Mode == api.MicroReady && mode == api.MicroEnter {
		n.reset = n.reset && why != api.WhyReset
		n.nmi = n.nmi && why != api.WhyNMI
	}
	n.stage = api.Stage{Mode: mode, Why: why, At: n.stage.At + 1, Seen: slices.Clone(n.stage.Seen)}
	if a.Kind == api.Read {
		n.stage.Seen = append(n.stage.Seen, v)
	}
	turn, _, _ := n.turn()
	if turn.Done && n.stage.At == len(turn.List) {
		n.regs = turn.Regs
		n.stage = api.Stage{Mode: []uint8{api.MicroReady, api.MicroWait, api.MicroStop}[turn.After]}
	}
	return n
}

// body is what is put of the state.
func (n naive) body() []uint8 {
	r, s := n.regs, n.stage
	var b []uint8
	for _, v := range []uint16{r.A, r.X, r.Y, r.S, r.D, r.PC} {
		b = append(b, uint8(v), uint8(v>>8))
	}
	b = append(b, r.B, r.K, r.P, truth(r.E), s.Mode, s.Why, truth(n.reset), truth(n.nmi), truth(n.irq), uint8(s.At), uint8(len(s.Seen)), 0, 0, 0)
	return append(b, s.Seen...)
}

func truth(is bool) uint8 {
	if is {
		return 1
	}
	return 0
}

// canBe tells whether a state can be: within a turn, whether that leads there by just these bytes, and goes on.
func (n naive) canBe() bool {
	s := n.stage
	if n.regs != reach.Settle(n.regs) || n.reset && s.Mode != api.MicroReady {
		return false
	}
	switch s.Mode {
	case api.MicroReady, api.MicroWait, api.MicroStop:
		return s.Why == 0 && s.At == 0 && len(s.Seen) == 0
	case api.MicroRun, api.MicroEnter:
	default:
		return false
	}
	if s.At < 1 || s.Why != 0 && s.Mode == api.MicroRun || s.Why > 2 {
		return false
	}
	m := naive{regs: n.regs, reset: s.Mode == api.MicroEnter && s.Why == api.WhyReset, nmi: s.Why == api.WhyNMI, irq: s.Why == api.WhyIRQ}
	if m.irq {
		m.regs.P &^= 4 // so that it would be entered
	}
	seen := s.Seen
	for range s.At {
		v := uint8(0)
		if m.next().Kind == api.Read {
			if len(seen) == 0 {
				return false
			}
			v, seen = seen[0], seen[1:]
		}
		if m = m.step(v); m.stage.At == 0 {
			return false
		}
	}
	return len(seen) == 0
}

// bodyOf are the bytes of which a processor's state consists.
func bodyOf(t *testing.T, c *micro.CPU) []uint8 {
	t.Helper()
	w := save.NewWriter()
	c.Save(w)
	b, e := w.Done()
	if e != api.OK {
		t.Fatal("Save: error", e)
	}
	return b[13:]
}

// reader is a reader of a body.
func reader(t *testing.T, body []uint8) *save.Reader {
	t.Helper()
	w := save.NewWriter()
	for _, v := range body {
		w.Byte(v)
	}
	b, _ := w.Done()
	r, e := save.NewReader(b)
	if e != api.OK {
		t.Fatal("NewReader: error", e)
	}
	return r
}

// wantSame asks of a processor all that the naive one tells.
func wantSame(t *testing.T, c *micro.CPU, n naive) {
	t.Helper()
	got, s := c.Stage(), n.stage
	same := got.Mode == s.Mode && got.Why == s.Why && got.At == s.At && slices.Equal(got.Seen, s.Seen)
	if !same || c.Next() != n.next() || c.Regs() != n.regs || !slices.Equal(bodyOf(t, c), n.body()) {
		t.Fatalf("%+v, next %+v, %+v, % x;\nwant %+v, next %+v, %+v, % x", got, c.Next(), c.Regs(), bodyOf(t, c), s, n.next(), n.regs, n.body())
	}
}

// event does one of the things that may be done to a processor, to both.
func event(t *testing.T, r *rand.Rand, c *micro.CPU, n naive) (*micro.CPU, naive) {
	t.Helper()
	switch r.Intn(40) {
	case 0:
		if n.stage.Mode == api.MicroStop || r.Intn(8) == 0 {
			c.Reset()
			n.reset, n.nmi, n.stage = true, false, api.Stage{}
		}
	case 1:
		c.NMI()
		n.nmi = true
	case 2:
		n.irq = !n.irq
		c.IRQ(n.irq)
	case 3:
		other := micro.New()
		if e := other.Load(reader(t, bodyOf(t, c))); e != api.OK {
			t.Fatalf("Load of % x: error %d", bodyOf(t, c), e)
		}
		c = other
	}
	return c, n
}

// aByte is any byte, or, now and then, a code of which much comes: WAI, STP, XCE, CLI, RTI, MVN.
func aByte(r *rand.Rand) uint8 {
	if r.Intn(4) == 0 {
		return []uint8{0xcb, 0xdb, 0xfb, 0x58, 0x40, 0x54}[r.Intn(6)]
	}
	return uint8(r.Intn(256))
}

// P9.1, P9.2, P9.3: whatever is done to a processor, in whichever order, whatever it reads, it stands where the naive one does.
func TestAnythingIsDone(t *testing.T) {
	stages := map[[2]uint8]int{}
	for seed := range 80 {
		r := rand.New(rand.NewSource(int64(seed)))
		c, n := micro.New(), newNaive()
		for range 3000 {
			wantSame(t, c, n)
			c, n = event(t, r, c, n)
			wantSame(t, c, n)
			stages[[2]uint8{n.stage.Mode, n.stage.Why}]++
			v := aByte(r)
			c.Step(v)
			n = n.step(v)
		}
	}
	for _, s := range [][2]uint8{{0, 0}, {1, 0}, {2, 0}, {2, 1}, {2, 2}, {3, 0}, {4, 0}} {
		if stages[s] < 100 {
			t.Errorf("in the mode %d, why %d, it stood %d times", s[0], s[1], stages[s])
		}
	}
}

// aState is a state, of which little can't be.
func aState(r *rand.Rand) naive {
	n := naive{regs: api.Regs{A: uint16(r.Uint32()), X: uint16(r.Intn(256)), Y: uint16(r.Intn(256)), S: uint16(256 + r.Intn(256)), D: uint16(r.Uint32()), PC: uint16(r.Uint32()), B: uint8(r.Uint32()), K: uint8(r.Uint32()), P: uint8(r.Uint32()), E: r.Intn(2) == 0}}
	if n.regs.E {
		n.regs.P |= 0x30
	}
	n.stage.Mode = uint8(r.Intn(5))
	if n.stage.Mode == api.MicroEnter {
		n.stage.Why = uint8(r.Intn(3))
	}
	n.nmi, n.irq = r.Intn(2) == 0, r.Intn(2) == 0
	n.reset = n.stage.Mode == api.MicroReady && r.Intn(2) == 0
	if n.stage.Mode == api.MicroRun || n.stage.Mode == api.MicroEnter {
		n.stage.At = 1 + r.Intn(8)
		for range r.Intn(6) {
			n.stage.Seen = append(n.stage.Seen, uint8(r.Uint32()))
		}
	}
	return n
}

// spoil changes one thing of a state, so that it perhaps can't be.
func spoil(r *rand.Rand, n *naive) {
	switch r.Intn(12) {
	case 0:
		n.regs.X = uint16(r.Uint32())
	case 1:
		n.regs.Y = uint16(r.Uint32())
	case 2:
		n.regs.S = uint16(r.Uint32())
	case 3:
		n.regs.P = uint8(r.Uint32())
	case 4:
		n.stage.Mode = uint8(r.Intn(7))
	case 5:
		n.stage.Why = uint8(r.Intn(5))
	case 6:
		n.stage.At = r.Intn(14)
	case 7:
		n.reset = !n.reset
	case 8:
		n.stage.Seen = append(n.stage.Seen, make([]uint8, r.Intn(16-len(n.stage.Seen)))...)
	case 9:
		n.stage.Mode = 0xff
	case 10:
		n.stage.At = 255
	}
}

// P9.3: of any state Load takes those that can be, and refuses the others; what it takes is put again as the same bytes, and goes on as the naive one.
func TestAnyStateIsLoaded(t *testing.T) {
	r := rand.New(rand.NewSource(93))
	taken := map[bool]int{}
	c := micro.New()
	for range 200000 {
		n := aState(r)
		spoil(r, &n)
		before := bodyOf(t, c)
		e := c.Load(reader(t, n.body()))
		can := n.canBe()
		taken[can]++
		switch {
		case can && e == api.OK:
			wantSame(t, c, n)
			for range r.Intn(12) {
				v := aByte(r)
				c.Step(v)
				n = n.step(v)
			}
			wantSame(t, c, n)
		case can || e != api.ErrState:
			t.Fatalf("Load of %+v: error %d; it can be: %v", n, e, can)
		case !slices.Equal(bodyOf(t, c), before):
			t.Fatalf("Load of %+v, which is refused, changes the processor", n)
		}
	}
	if taken[true] < 10000 || taken[false] < 10000 {
		t.Errorf("%d states that can be, %d that can't", taken[true], taken[false])
	}
}
