package tick_test

import (
	"bytes"
	"encoding/hex"
	"math"
	"strings"
	"testing"

	"lanthorn/api"
	"lanthorn/tick"
)

// The periods of the timers.
var periods = [3]int{128, 128, 16}

func pass(k *tick.Tick, n int) {
	for range n {
		k.Step()
	}
}

func wantRead(t *testing.T, k *tick.Tick, reg, want uint8) {
	t.Helper()
	if got := k.Read(reg); got != want {
		t.Errorf("register %d reads as %d, want %d", reg, got, want)
	}
}

func wantOut(t *testing.T, k *tick.Tick, at int, want uint8) {
	t.Helper()
	if got, e := k.Out(at); e != api.OK || got != want {
		t.Errorf("at port %d goes out %d, error %d, want %d", at, got, e, want)
	}
}

func wantState(t *testing.T, k *tick.Tick, want saved) {
	t.Helper()
	if got := bodyOf(t, k); !bytes.Equal(got, want.part()) {
		t.Errorf("it is % X, want\n% X", got, want.part())
	}
}

// wantTimer asks for a timer's target, divider, count and tally, as they are put.
func wantTimer(t *testing.T, k *tick.Tick, i int, want ...uint8) {
	t.Helper()
	if got := bodyOf(t, k)[6+4*i:][:4]; !bytes.Equal(got, want) {
		t.Errorf("timer %d: %d, want %d", i, got, want)
	}
}

// in lets a byte come in at a port.
func in(t *testing.T, k *tick.Tick, at int, v uint8) {
	t.Helper()
	if e := k.In(at, v); e != api.OK {
		t.Errorf("In at port %d: error %d", at, e)
	}
}

// P13.1, P13.2: the chapter's examples, in their order.
func TestExamples(t *testing.T) {
	k := tick.New()
	if !k.Shown() {
		t.Error("at first the start-up program is not shown")
	}
	k.Write(1, 1)
	if k.Shown() {
		t.Error("it is shown still")
	}
	k.Write(10, 2)
	pass(k, 255)
	wantRead(t, k, 13, 0)
	k.Step()
	wantRead(t, k, 13, 1)
	wantRead(t, k, 13, 0)
	in(t, k, 0, 7)
	wantRead(t, k, 4, 7)
	k.Write(4, 9)
	wantOut(t, k, 0, 9)
	k.Write(1, 16)
	wantRead(t, k, 4, 0)
	if e := k.In(4, 1); e != api.ErrRange {
		t.Error("In at port 4: error", e)
	}
	for _, x := range []struct {
		at   int
		v    uint8
		want api.Errno
	}{{0, 0xcd, api.OK}, {63, 0xff, api.OK}, {64, 0, api.ErrRange}} {
		if v, e := tick.Boot(x.at); v != x.v || e != x.want {
			t.Errorf("Boot of %d: %02X, error %d, want %02X, %d", x.at, v, e, x.v, x.want)
		}
	}
}

// The chapter's numbers.
func TestNumbers(t *testing.T) {
	if api.ErrTick != 130 || api.BootSize != 64 {
		t.Error(api.ErrTick, api.BootSize)
	}
}

// P13.1: at first the start-up program is shown, and all else is 0; timers that are off tally nothing.
func TestNew(t *testing.T) {
	k := tick.New()
	wantState(t, k, saved{control: 0x80})
	for reg := range 256 {
		wantRead(t, k, uint8(reg), 0)
	}
	for at := range 4 {
		wantOut(t, k, at, 0)
	}
	pass(k, 128*256*2)
	wantState(t, k, saved{control: 0x80})
}

// P13.1: what a write of each register changes, of a state whose bytes are all unlike.
func TestWrite(t *testing.T) {
	for reg := range 256 {
		for _, v := range []uint8{0, 1, 0x5a, 0x80, 0xff} {
			k, want := loaded(t, unlike()), unlike()
			switch {
			case reg == 1: // TestControl
				continue
			case reg >= 4 && reg <= 7:
				want.out[reg-4] = v
			case reg == 8, reg == 9:
				want.kept[reg-8] = v
			case reg >= 10 && reg <= 12:
				want.timers[reg-10][0] = v
			}
			k.Write(uint8(reg), v)
			wantState(t, k, want)
		}
	}
}

// P13.1: what each register reads as, and what that changes.
func TestRead(t *testing.T) {
	for reg := range 256 {
		k, want, v := loaded(t, unlike()), unlike(), uint8(0)
		switch {
		case reg >= 4 && reg <= 7:
			v = want.in[reg-4]
		case reg == 8, reg == 9:
			v = want.kept[reg-8]
		case reg >= 13 && reg <= 15:
			v = want.timers[reg-13][3]
			want.timers[reg-13][3] = 0
		}
		wantRead(t, k, uint8(reg), v)
		wantState(t, k, want)
	}
}

// P13.1: each byte that is written to the register 1, of timers that were all off, all on, or some of both.
func TestControl(t *testing.T) {
	for _, was := range []uint8{0x00, 0x87, 0x05, 0x82, 0x80, 0x07} {
		for v := range 256 {
			from := unlike()
			from.control = was
			want := from
			want.control = uint8(v) & 0x87
			for i := range 3 {
				if v>>i&1 == 1 && was>>i&1 == 0 {
					want.timers[i][2], want.timers[i][3] = 0, 0
				}
			}
			if v&16 != 0 {
				want.in[0], want.in[1] = 0, 0
			}
			if v&32 != 0 {
				want.in[2], want.in[3] = 0, 0
			}
			k := loaded(t, from)
			k.Write(1, uint8(v))
			wantState(t, k, want)
			if k.Shown() != (v >= 128) {
				t.Errorf("behind %02X it is shown: %v", v, k.Shown())
			}
		}
	}
}

// P13.1: the dividers go on while timers are off, and are left as they are when these are turned on.
func TestDividers(t *testing.T) {
	k := tick.New()
	pass(k, 100)
	wantState(t, k, saved{control: 0x80, timers: [3][4]uint8{{0, 100}, {0, 100}, {0, 4}}})
	for _, reg := range []uint8{10, 11, 12} {
		k.Write(reg, 1)
	}
	k.Write(1, 7)
	wantState(t, k, saved{control: 7, timers: [3][4]uint8{{1, 100}, {1, 100}, {1, 4}}})
	pass(k, 11)
	wantState(t, k, saved{control: 7, timers: [3][4]uint8{{1, 111}, {1, 111}, {1, 15}}})
	k.Step()
	wantState(t, k, saved{control: 7, timers: [3][4]uint8{{1, 112}, {1, 112}, {1, 0, 0, 1}}})
	pass(k, 15)
	wantState(t, k, saved{control: 7, timers: [3][4]uint8{{1, 127}, {1, 127}, {1, 15, 0, 1}}})
	k.Step()
	wantState(t, k, saved{control: 7, timers: [3][4]uint8{{1, 0, 0, 1}, {1, 0, 0, 1}, {1, 0, 0, 2}}})
}

// P13.1: a timer that is turned off keeps its count and its tally; one that is on already and is told so again does, too.
func TestOffAndOn(t *testing.T) {
	k := tick.New()
	k.Write(11, 5)
	k.Write(1, 2)
	pass(k, 128*8)
	on := saved{control: 2, timers: [3][4]uint8{{}, {5, 0, 3, 1}, {}}}
	wantState(t, k, on)
	k.Write(1, 2)
	wantState(t, k, on)
	off := on
	off.control = 0
	k.Write(1, 0)
	wantState(t, k, off)
	pass(k, 128*20)
	wantState(t, k, off)
	k.Write(1, 0)
	wantState(t, k, off)
	k.Write(1, 2)
	wantState(t, k, saved{control: 2, timers: [3][4]uint8{{}, {5}, {}}})
	pass(k, 128*5)
	wantRead(t, k, 14, 1)
	k.Write(1, 0)
	pass(k, 128*5)
	wantRead(t, k, 14, 0)
}

// P13.1: which timer goes on is told by its own bit.
func TestBits(t *testing.T) {
	for bits := range uint8(8) {
		k := tick.New()
		for i, target := range []uint8{1, 2, 9} {
			k.Write(uint8(10+i), target)
		}
		k.Write(1, bits)
		pass(k, 128*6)
		for i, tallied := range []uint8{6, 3, 5} {
			wantRead(t, k, uint8(13+i), tallied*(bits>>i&1))
		}
	}
}

// P13.1: a count that is beyond its target goes all the way round; one that comes to stand at it by a write doesn't count as come to it.
func TestLateTargets(t *testing.T) {
	for _, x := range []struct {
		count, target uint8
		periods       int
	}{{9, 10, 1}, {9, 8, 255}, {9, 9, 256}, {9, 0, 247}, {255, 0, 1}, {0, 0, 256}, {0, 1, 1}, {255, 255, 256}, {254, 255, 1}, {255, 1, 2}} {
		k := loaded(t, saved{control: 4, timers: [3][4]uint8{2: {77, 0, x.count, 0}}})
		k.Write(12, x.target)
		wantRead(t, k, 15, 0)
		pass(k, 16*x.periods-1)
		wantRead(t, k, 15, 0)
		k.Step()
		wantTimer(t, k, 2, x.target, 0, 0, 1)
	}
}

// P13.1: a tally goes up to 15, then it is 0 again; reading it leaves the count as it is.
func TestTallies(t *testing.T) {
	k := tick.New()
	k.Write(12, 3)
	k.Write(1, 4)
	for n := range 40 {
		wantTimer(t, k, 2, 3, 0, 0, uint8(n%16))
		pass(k, 48)
	}
	pass(k, 35)
	wantRead(t, k, 15, 8)
	wantTimer(t, k, 2, 3, 3, 2, 0)
	pass(k, 13)
	wantRead(t, k, 15, 1)
}

// P13.2: what comes in and what goes out are apart, at each port; the last byte counts.
func TestPorts(t *testing.T) {
	k := tick.New()
	for at := range 4 {
		in(t, k, at, 0x77)
		in(t, k, at, 0x10+uint8(at))
		k.Write(4+uint8(at), 0x88)
		k.Write(4+uint8(at), 0x20+uint8(at))
	}
	wantState(t, k, saved{control: 0x80, in: [4]uint8{0x10, 0x11, 0x12, 0x13}, out: [4]uint8{0x20, 0x21, 0x22, 0x23}})
	for at := range 4 {
		for range 2 {
			wantRead(t, k, 4+uint8(at), 0x10+uint8(at))
			wantOut(t, k, at, 0x20+uint8(at))
		}
	}
	before := bodyOf(t, k)
	for _, at := range []int{-1, 4, 5, 256, -256, math.MinInt, math.MaxInt} {
		if e := k.In(at, 9); e != api.ErrRange {
			t.Errorf("In at port %d: error %d", at, e)
		}
		if v, e := k.Out(at); e != api.ErrRange || v != 0 {
			t.Errorf("Out at port %d: %d, error %d", at, v, e)
		}
	}
	if !bytes.Equal(bodyOf(t, k), before) {
		t.Error("ports that are none have changed something")
	}
}

// bootText is the chapter's start-up program.
const bootText = `
    CD EF BD 8F A5 F4 78 5A F4 D0 FB BA F6 DA 00 CD
    00 8D 00 D8 F4 3D 3E F4 F0 09 E4 F4 D0 F8 CD 00
    1F F6 00 E4 F5 D7 00 FC D0 02 AB 01 D8 F4 3D D0
    E5 3D 2F E2 00 00 00 00 00 00 00 00 00 00 C0 FF`

// P13.2: all bytes of the start-up program; places that are none.
func TestBoot(t *testing.T) {
	want, e := hex.DecodeString(strings.Join(strings.Fields(bootText), ""))
	if e != nil || len(want) != 64 {
		t.Fatal(len(want), e)
	}
	for at, v := range want {
		if got, e := tick.Boot(at); e != api.OK || got != v {
			t.Errorf("Boot of %d: %02X, error %d, want %02X", at, got, e, v)
		}
	}
	for _, at := range []int{-1, 64, 65, 256, 0xffc0, math.MinInt, math.MaxInt} {
		if got, e := tick.Boot(at); e != api.ErrRange || got != 0 {
			t.Errorf("Boot of %d: %02X, error %d", at, got, e)
		}
	}
}

// P13.1 to P13.3, R4: of one that is not there.
func TestNil(t *testing.T) {
	var k *tick.Tick
	k.Step()
	for reg := range 256 {
		k.Write(uint8(reg), 0xff)
		wantRead(t, k, uint8(reg), 0)
	}
	for _, at := range []int{-1, 0, 3, 4} {
		if e := k.In(at, 1); e != api.ErrNil {
			t.Errorf("In at port %d: error %d", at, e)
		}
		if v, e := k.Out(at); e != api.ErrNil || v != 0 {
			t.Errorf("Out at port %d: %d, error %d", at, v, e)
		}
	}
	if k.Shown() {
		t.Error("it shows the start-up program")
	}
	if b := bodyOf(t, k); len(b) > 0 {
		t.Errorf("Save puts % X", b)
	}
	k.Save(nil)
	r := reader(t, unlike().part())
	left := r.Left()
	if e := k.Load(r); e != api.ErrNil || r.Left() != left {
		t.Error("Load: error", e)
	}
	if e := k.Load(nil); e != api.ErrNil {
		t.Error("Load of nothing: error", e)
	}
}

// R5: two of them know nothing of one another.
func TestUnlike(t *testing.T) {
	k, other := tick.New(), tick.New()
	for reg := range uint8(16) {
		k.Write(reg, 0x47)
	}
	for at := range 4 {
		in(t, k, at, 0x47)
	}
	pass(k, 777)
	wantState(t, other, saved{control: 0x80})
	wantState(t, tick.New(), saved{control: 0x80})
}
