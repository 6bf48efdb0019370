package player_test

import (
	"bytes"
	"math/rand"
	"slices"
	"testing"

	"lanthorn/api"
	"lanthorn/player"
	"lanthorn/save"
)

// saved is a state that is put by hand, in the chapter's order.
type saved struct {
	bytes [5]uint8 // A, X, Y, S, Psw
	pc    uint16
	halt  uint8
	done  uint8
	seen  []uint8

	tag  int // how much more than 12 the tag is
	size int // how many bytes more the part says to have than it has
	row  int // likewise the row
	more int // how many noughts stand behind the row, within the part
}

// long is a number of four bytes, the lowest first.
func long(n int) []uint8 { return []uint8{uint8(n), uint8(n >> 8), uint8(n >> 16), uint8(n >> 24)} }

func (s saved) part() []uint8 {
	b := append(s.bytes[:], uint8(s.pc), uint8(s.pc>>8), s.halt, s.done)
	b = slices.Concat(b, long(len(s.seen)+s.row), s.seen, make([]uint8, s.more))
	return slices.Concat([]uint8{uint8(12 + s.tag)}, long(len(b)+s.size), b)
}

// of is a state, changed.
func of(s saved, change func(s *saved)) saved {
	change(&s)
	return s
}

// ahead is a state of registers that are all unlike; within one within ADC A,[40]+Y there, four accesses carried out, one of them an idle.
func ahead() saved {
	return saved{bytes: [5]uint8{0x11, 0x22, 0x33, 0x44, 0x55}, pc: 0x6677}
}

func within() saved {
	s := ahead()
	s.done, s.seen = 4, []uint8{0x97, 0x40, 0xfe}
	return s
}

// P12.4: what is put, byte by byte.
func TestPut(t *testing.T) {
	p := player.New(api.Pegs{A: 1, X: 2, Y: 3, S: 4, Psw: 0x85, Pc: 0x0607})
	want := []uint8{12, 13, 0, 0, 0, 1, 2, 3, 4, 0x85, 7, 6, 0, 0, 0, 0, 0, 0}
	if got := bodyOf(t, p); !bytes.Equal(got, want) {
		t.Errorf("% X, want\n% X", got, want)
	}
	p.Step(0xc5)
	p.Step(0x34)
	p.Step(0x12)
	p.Step(0xff)
	want = []uint8{12, 16, 0, 0, 0, 1, 2, 3, 4, 0x85, 7, 6, 0, 4, 3, 0, 0, 0, 0xc5, 0x34, 0x12}
	if got := bodyOf(t, p); !bytes.Equal(got, want) {
		t.Errorf("% X, want\n% X", got, want)
	}
	p.Step(0xff) // the instruction's end
	want = []uint8{12, 13, 0, 0, 0, 1, 2, 3, 4, 0x85, 10, 6, 0, 0, 0, 0, 0, 0}
	if got := bodyOf(t, p); !bytes.Equal(got, want) {
		t.Errorf("% X, want\n% X", got, want)
	}
	p = player.New(api.Pegs{Halt: true, Pc: 0xfffe})
	want = []uint8{12, 13, 0, 0, 0, 0, 0, 0, 0, 0, 0xfe, 0xff, 1, 0, 0, 0, 0, 0}
	if got := bodyOf(t, p); !bytes.Equal(got, want) {
		t.Errorf("% X, want\n% X", got, want)
	}
}

// P12.4, R7: Save does not change the player, and puts behind what was put; of a nil writer it puts nothing.
func TestSaveAgain(t *testing.T) {
	p := loaded(t, within().part())
	p.Save(nil)
	w := save.NewWriter()
	w.Byte(7)
	p.Save(w)
	p.Save(w)
	b, _ := w.Done()
	part := within().part()
	if want := slices.Concat([]uint8{7}, part, part); !bytes.Equal(b[13:], want) {
		t.Errorf("% X, want\n% X", b[13:], want)
	}
	wantStep(t, p, 0x00, read(0x41))
	wantStep(t, p, 0x01, read(0x131))
	wantStand(t, p, api.Pegs{A: 0x13, X: 0x22, Y: 0x33, S: 0x44, Psw: 0x14, Pc: 0x6679}, 0)
}

// P12.4: what is taken, value by value; what stands behind the part is not.
func TestTake(t *testing.T) {
	p := player.New(api.Pegs{Halt: true})
	r := reader(t, slices.Concat(within().part(), []uint8{1, 2, 3}))
	if e := p.Load(r); e != api.OK || r.Left() != 3 {
		t.Fatalf("Load: error %d, %d left", e, r.Left())
	}
	regs := api.Pegs{A: 0x11, X: 0x22, Y: 0x33, S: 0x44, Psw: 0x55, Pc: 0x6677}
	wantStand(t, p, regs, 4)
	wantStep(t, p, 0x00, read(0x41))
	wantStand(t, p, regs, 5)
	r = reader(t, of(ahead(), func(s *saved) { s.halt = 1 }).part())
	regs.Halt = true
	if e := p.Load(r); e != api.OK || r.Done() != api.OK {
		t.Fatal("Load: error", e)
	}
	wantStand(t, p, regs, 0)
	wantStep(t, p, 0, idle())
}

// P12.4: states that a player may have, at their edges.
func TestCanBe(t *testing.T) {
	for what, s := range map[string]saved{
		"ahead of an instruction": ahead(),
		"all bits set":            {bytes: [5]uint8{0xff, 0xff, 0xff, 0xff, 0xff}, pc: 0xffff},
		"it has halted":           of(ahead(), func(s *saved) { s.halt = 1 }),
		"within an instruction":   within(),
		"behind its code":         of(ahead(), func(s *saved) { s.done, s.seen = 1, []uint8{0x97} }),
		"at an idle":              of(ahead(), func(s *saved) { s.done, s.seen = 1, []uint8{0} }),
		"at a write":              of(ahead(), func(s *saved) { s.done, s.seen = 4, []uint8{0xc5, 1, 2} }),
		"at the last of twelve":   of(ahead(), func(s *saved) { s.done, s.seen = 11, []uint8{0x9e} }),
		"at the last read":        of(ahead(), func(s *saved) { s.done, s.seen = 5, []uint8{0x97, 0x40, 0xfe, 0} }),
		"at a branch's last idle": of(ahead(), func(s *saved) { s.done, s.seen = 3, []uint8{0x2f, 0xfe} }),
	} {
		if got := bodyOf(t, loaded(t, s.part())); !bytes.Equal(got, s.part()) {
			t.Errorf("%s: put again it is % X, was % X", what, got, s.part())
		}
	}
}

// P12.4: what is refused, the reader's errors first; the player is what it was.
func TestRefused(t *testing.T) {
	for _, x := range []struct {
		what string
		s    saved
		want api.Errno
	}{
		{"two accesses, one byte", of(ahead(), func(s *saved) { s.done, s.seen = 2, []uint8{0xc4} }), api.ErrPlayer},
		{"an access, no byte", of(ahead(), func(s *saved) { s.done = 1 }), api.ErrPlayer},
		{"no access, a byte", of(ahead(), func(s *saved) { s.seen = []uint8{0x97} }), api.ErrPlayer},
		{"a byte too few", of(within(), func(s *saved) { s.done = 5 }), api.ErrPlayer},
		{"a byte too many", of(within(), func(s *saved) { s.done = 3 }), api.ErrPlayer},
		{"all accesses", of(within(), func(s *saved) { s.done, s.seen = 6, []uint8{0x97, 0x40, 0xfe, 0, 1} }), api.ErrPlayer},
		{"all accesses, the last an idle", of(ahead(), func(s *saved) { s.done, s.seen = 2, []uint8{0} }), api.ErrPlayer},
		{"all accesses, the last a write", of(ahead(), func(s *saved) { s.done, s.seen = 5, []uint8{0xc5, 1, 2} }), api.ErrPlayer},
		{"all accesses, without a branch", of(ahead(), func(s *saved) { s.done, s.seen = 2, []uint8{0xf0, 0x10} }), api.ErrPlayer},
		{"more than all accesses", of(ahead(), func(s *saved) { s.done, s.seen = 3, []uint8{0} }), api.ErrPlayer},
		{"255 accesses", of(within(), func(s *saved) { s.done = 255 }), api.ErrPlayer},
		{"halted, an access", of(ahead(), func(s *saved) { s.halt, s.done = 1, 1 }), api.ErrPlayer},
		{"halted, a byte", of(ahead(), func(s *saved) { s.halt, s.seen = 1, []uint8{0} }), api.ErrPlayer},
		{"halted, an access and a byte", of(ahead(), func(s *saved) { s.halt, s.done, s.seen = 1, 1, []uint8{0x97} }), api.ErrPlayer},
		{"200 bytes", of(ahead(), func(s *saved) { s.seen = make([]uint8, 200) }), api.ErrPlayer},
		{"70000 bytes", of(ahead(), func(s *saved) { s.done, s.seen = 1, make([]uint8, 70000) }), api.ErrPlayer},
		{"another tag", of(within(), func(s *saved) { s.tag = 1 }), api.ErrTag},
		{"the tag 0", of(within(), func(s *saved) { s.tag = -12 }), api.ErrTag},
		{"a part that is longer than all", of(within(), func(s *saved) { s.size = 1 }), api.ErrLength},
		{"a part that ends too early", of(within(), func(s *saved) { s.size = -1 }), api.ErrEnd},
		{"a part without anything", of(within(), func(s *saved) { s.size = -16 }), api.ErrEnd},
		{"a row that is longer than the part", of(within(), func(s *saved) { s.row = 1 }), api.ErrEnd},
		{"a row that ends too early", of(within(), func(s *saved) { s.row = -1 }), api.ErrLeft},
		{"something left", of(within(), func(s *saved) { s.more = 1 }), api.ErrLeft},
		{"a truth of 2", of(within(), func(s *saved) { s.halt = 2 }), api.ErrFlag},
		{"a truth of 255", of(within(), func(s *saved) { s.halt = 255 }), api.ErrFlag},
		{"a truth of 2, another tag", of(within(), func(s *saved) { s.halt, s.tag = 2, 1 }), api.ErrTag},
		{"a truth of 2, a row too long", of(within(), func(s *saved) { s.halt, s.row = 2, 1 }), api.ErrFlag},
		{"a byte too few, a row too long", of(within(), func(s *saved) { s.done, s.row = 5, 1 }), api.ErrEnd},
		{"a byte too few, something left", of(within(), func(s *saved) { s.done, s.more = 5, 1 }), api.ErrLeft},
	} {
		wantRefused(t, x.what, x.s.part(), x.want)
	}
	for n := range len(within().part()) {
		want := api.ErrEnd
		if n >= 5 { // the part's head is there, and says more than there is
			want = api.ErrLength
		}
		wantRefused(t, "the first bytes alone", within().part()[:n], want)
		if n >= 5 {
			cut := within().part()[:n]
			copy(cut[1:], long(n-5))
			wantRefused(t, "the first values alone", cut, api.ErrEnd)
		}
	}
}

// wantRefused asks that a player refuses to load a body, and stays as it was.
func wantRefused(t *testing.T, what string, body []uint8, want api.Errno) {
	t.Helper()
	m := memoryOf(0xc5, 0x10, 0x20)
	p := player.New(at0200())
	p.Run(m, 2)
	before := bodyOf(t, p)
	if e := p.Load(reader(t, body)); e != want {
		t.Errorf("%s: error %d, want %d", what, e, want)
	}
	if !bytes.Equal(bodyOf(t, p), before) {
		t.Errorf("%s: the player has changed", what)
	}
	wantStand(t, p, at0200(), 2)
	wantRun(t, p, m, 4, read(0x202), idle(), write(0x2010, 5), read(0x203))
}

// P12.4: of a nil reader; within other parts, of which there may be one less than MaxParts.
func TestLoadReaders(t *testing.T) {
	p := player.New(at0200())
	before := bodyOf(t, p)
	if e := p.Load(nil); e != api.ErrNil || !bytes.Equal(bodyOf(t, p), before) {
		t.Error("Load of a nil reader: error", e)
	}
	for _, open := range []int{1, api.MaxParts - 1, api.MaxParts} {
		body := within().part()
		for range open {
			body = slices.Concat([]uint8{9}, long(len(body)), body)
		}
		r := reader(t, body)
		for range open {
			r.Open(9)
		}
		p = player.New(at0200())
		e := p.Load(r)
		switch {
		case open == api.MaxParts:
			if e != api.ErrLarge || !bytes.Equal(bodyOf(t, p), before) {
				t.Errorf("Load within %d parts: error %d", open, e)
			}
		case e != api.OK || r.Left() != 0 || r.Close() != api.OK || !bytes.Equal(bodyOf(t, p), within().part()):
			t.Errorf("Load within %d parts: error %d", open, e)
		}
	}
}

// P12.4, R1, R7: of any bytes Load answers an error, and nothing has changed, or the state is just these bytes.
func TestAnyBytesAreLoaded(t *testing.T) {
	r := rand.New(rand.NewSource(123))
	taken := 0
	p := player.New(at0200())
	for range 60000 {
		body := within().part()
		if r.Intn(2) == 0 {
			body = ahead().part()
		}
		for range 1 + r.Intn(3) {
			body[r.Intn(len(body))] = some(r)
		}
		before := bodyOf(t, p)
		if p.Load(reader(t, body)) == api.OK {
			taken++
			before = body
		}
		if got := bodyOf(t, p); !bytes.Equal(got, before) {
			t.Fatalf("Load of % X: the state is % X, want % X", body, got, before)
		}
	}
	if taken < 1000 || taken > 59000 {
		t.Error(taken, "were taken")
	}
}
