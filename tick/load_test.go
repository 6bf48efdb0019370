package tick_test

import (
	"bytes"
	"math/rand"
	"slices"
	"testing"

	"lanthorn/api"
	"lanthorn/save"
	"lanthorn/tick"
)

// saved is a state that is put by hand, in the chapter's order.
type saved struct {
	control uint8
	timers  [3][4]uint8 // target, divider, count, tally
	in, out [4]uint8
	kept    [2]uint8

	tag  int // how much more than 13 the tag is
	size int // how many bytes more the part says to have than it has
	more int // how many noughts stand behind the last byte, within the part
}

// long is a number of four bytes, the lowest first.
func long(n int) []uint8 { return []uint8{uint8(n), uint8(n >> 8), uint8(n >> 16), uint8(n >> 24)} }

func (s saved) part() []uint8 {
	b := []uint8{s.control}
	for _, m := range s.timers {
		b = append(b, m[:]...)
	}
	b = slices.Concat(b, s.in[:], s.out[:], s.kept[:], make([]uint8, s.more))
	return slices.Concat([]uint8{uint8(13 + s.tag)}, long(len(b)+s.size), b)
}

// of is a state, changed.
func of(s saved, change func(s *saved)) saved {
	change(&s)
	return s
}

// unlike is a state whose bytes are all unlike, and none is 0.
func unlike() saved {
	return saved{
		control: 0x82,
		timers:  [3][4]uint8{{0x11, 0x12, 0x13, 0x04}, {0x21, 0x22, 0x23, 0x05}, {0x31, 0x0c, 0x33, 0x06}},
		in:      [4]uint8{0x41, 0x42, 0x43, 0x44}, out: [4]uint8{0x51, 0x52, 0x53, 0x54}, kept: [2]uint8{0x61, 0x62},
	}
}

// bodyOf are the bytes of which a state consists.
func bodyOf(t *testing.T, k *tick.Tick) []uint8 {
	t.Helper()
	w := save.NewWriter()
	k.Save(w)
	b, e := w.Done()
	if e != api.OK {
		t.Fatal("Save: error", e)
	}
	return b[13:]
}

// reader is a reader of a body.
func reader(t *testing.T, body []uint8) *save.Reader {
	t.Helper()
	w := save.NewWriter()
	for _, v := range body {
		w.Byte(v)
	}
	b, _ := w.Done()
	r, e := save.NewReader(b)
	if e != api.OK {
		t.Fatal("NewReader: error", e)
	}
	return r
}

// loaded is one with a state, which was in another one.
func loaded(t *testing.T, s saved) *tick.Tick {
	t.Helper()
	k := tick.New()
	k.Write(9, 0x99)
	pass(k, 5)
	r := reader(t, s.part())
	if e := k.Load(r); e != api.OK || r.Done() != api.OK {
		t.Fatalf("Load of % X: error %d", s.part(), e)
	}
	return k
}

// P13.3: what is put, byte by byte.
func TestPut(t *testing.T) {
	k := tick.New()
	want := append([]uint8{13, 23, 0, 0, 0, 0x80}, make([]uint8, 22)...)
	if got := bodyOf(t, k); !bytes.Equal(got, want) {
		t.Errorf("% X, want\n% X", got, want)
	}
	k.Write(1, 0x77)
	for i := range 4 {
		in(t, k, i, uint8(0x41+i))
		k.Write(uint8(4+i), uint8(0x51+i))
	}
	for i, v := range []uint8{0x61, 0x62, 3, 2, 60} {
		k.Write(uint8(8+i), v)
	}
	pass(k, 128*7+17)
	want = []uint8{13, 23, 0, 0, 0, 0x07,
		3, 17, 1, 2,
		2, 17, 1, 3,
		60, 1, 57, 0,
		0x41, 0x42, 0x43, 0x44, 0x51, 0x52, 0x53, 0x54, 0x61, 0x62}
	if got := bodyOf(t, k); !bytes.Equal(got, want) {
		t.Errorf("% X, want\n% X", got, want)
	}
}

// P13.3, R7: Save changes nothing, and puts behind what was put; to a nil writer it puts nothing.
func TestSaveAgain(t *testing.T) {
	k := loaded(t, unlike())
	k.Save(nil)
	w := save.NewWriter()
	w.Byte(7)
	k.Save(w)
	k.Save(w)
	b, _ := w.Done()
	part := unlike().part()
	if want := slices.Concat([]uint8{7}, part, part); !bytes.Equal(b[13:], want) {
		t.Errorf("% X, want\n% X", b[13:], want)
	}
}

// P13.3: each value is taken to where it belongs; what stands behind the part is not taken.
func TestTake(t *testing.T) {
	k := tick.New()
	r := reader(t, slices.Concat(unlike().part(), []uint8{1, 2, 3}))
	if e := k.Load(r); e != api.OK || r.Left() != 3 {
		t.Fatalf("Load: error %d, %d left", e, r.Left())
	}
	wantState(t, k, unlike())
	for i, v := range []uint8{0, 0, 0, 0, 0x41, 0x42, 0x43, 0x44, 0x61, 0x62, 0, 0, 0, 4, 5, 6} {
		wantRead(t, k, uint8(i), v)
	}
	for i := range 4 {
		wantOut(t, k, i, uint8(0x51+i))
	}
	if !k.Shown() {
		t.Error("the start-up program is not shown")
	}
	// The timer 1 alone is on: its count, 23 of 21, goes all the way round.
	pass(k, 128-0x22+128*(0x100-0x23+0x21-1)-1)
	wantRead(t, k, 14, 0)
	k.Step()
	for i, v := range []uint8{0, 1, 0} {
		wantRead(t, k, uint8(13+i), v)
	}
}

// P13.3: states that can be, at their edges.
func TestCanBe(t *testing.T) {
	for what, s := range map[string]saved{
		"all noughts":        {},
		"as it is at first":  {control: 0x80},
		"no bit":             of(unlike(), func(s *saved) { s.control = 0 }),
		"all bits":           of(unlike(), func(s *saved) { s.control = 0x87 }),
		"counts at targets":  of(unlike(), func(s *saved) { s.timers = [3][4]uint8{{9, 0, 9}, {8, 0, 8}, {255, 0, 255}} }),
		"counts behind them": of(unlike(), func(s *saved) { s.timers = [3][4]uint8{{9, 0, 10}, {8, 0, 255}, {1, 0, 2}} }),
		"greatest numbers": {control: 0x87, timers: [3][4]uint8{{255, 127, 255, 15}, {255, 127, 255, 15}, {255, 15, 255, 15}},
			in: [4]uint8{255, 255, 255, 255}, out: [4]uint8{255, 255, 255, 255}, kept: [2]uint8{255, 255}},
	} {
		if got := bodyOf(t, loaded(t, s)); !bytes.Equal(got, s.part()) {
			t.Errorf("%s: put again it is % X, was % X", what, got, s.part())
		}
	}
	k := loaded(t, saved{control: 0x87, timers: [3][4]uint8{{255, 127, 254, 15}, {255, 127, 255, 15}, {0, 15, 255, 15}}})
	k.Step()
	wantState(t, k, saved{control: 0x87, timers: [3][4]uint8{{255, 0, 0, 0}, {255, 0, 0, 15}, {0, 0, 0, 0}}})
}

// P13.3: what is refused, the reader's errors first; nothing changes.
func TestRefused(t *testing.T) {
	for i := range 3 {
		for v := periods[i]; v < 256; v++ {
			wantRefused(t, "a divider", of(unlike(), func(s *saved) { s.timers[i][1] = uint8(v) }).part(), api.ErrTick)
		}
		for v := 16; v < 256; v++ {
			wantRefused(t, "a tally", of(unlike(), func(s *saved) { s.timers[i][3] = uint8(v) }).part(), api.ErrTick)
		}
	}
	for v := range 256 {
		if v&0x78 != 0 {
			wantRefused(t, "another bit", of(unlike(), func(s *saved) { s.control = uint8(v) }).part(), api.ErrTick)
		}
	}
	for _, x := range []struct {
		what string
		s    saved
		want api.Errno
	}{
		{"another tag", of(unlike(), func(s *saved) { s.tag = 1 }), api.ErrTag},
		{"a player's tag", of(unlike(), func(s *saved) { s.tag = -1 }), api.ErrTag},
		{"another tag, another bit", of(unlike(), func(s *saved) { s.tag, s.control = 1, 8 }), api.ErrTag},
		{"a part that is longer than all", of(unlike(), func(s *saved) { s.size = 1 }), api.ErrLength},
		{"a part that ends too early", of(unlike(), func(s *saved) { s.size = -1 }), api.ErrEnd},
		{"a part without anything", of(unlike(), func(s *saved) { s.size = -23 }), api.ErrEnd},
		{"a part that ends too early, another bit", of(unlike(), func(s *saved) { s.size, s.control = -1, 8 }), api.ErrEnd},
		{"something left", of(unlike(), func(s *saved) { s.more = 1 }), api.ErrLeft},
		{"something left, a divider", of(unlike(), func(s *saved) { s.more, s.timers[2][1] = 1, 16 }), api.ErrLeft},
		{"something left, a tally", of(unlike(), func(s *saved) { s.more, s.timers[0][3] = 9, 16 }), api.ErrLeft},
	} {
		wantRefused(t, x.what, x.s.part(), x.want)
	}
	for n := range len(unlike().part()) {
		want := api.ErrEnd
		if n >= 5 { // the part's head is there, and says more than there is
			want = api.ErrLength
		}
		wantRefused(t, "the first bytes alone", unlike().part()[:n], want)
		if n >= 5 {
			cut := unlike().part()[:n]
			copy(cut[1:], long(n-5))
			wantRefused(t, "the first values alone", cut, api.ErrEnd)
		}
	}
}

// other is a state that has nothing in common with unlike's.
func other() saved {
	return saved{
		control: 0x05,
		timers:  [3][4]uint8{{9, 8, 7, 1}, {5, 4, 3, 2}, {1, 2, 4, 8}},
		in:      [4]uint8{9, 8, 7, 6}, out: [4]uint8{5, 4, 3, 2}, kept: [2]uint8{8, 9},
	}
}

// wantRefused asks that loading a body is refused, and all is as it was.
func wantRefused(t *testing.T, what string, body []uint8, want api.Errno) {
	t.Helper()
	k := loaded(t, other())
	if e := k.Load(reader(t, body)); e != want {
		t.Errorf("%s: % X: error %d, want %d", what, body, e, want)
	}
	wantState(t, k, other())
}

// P13.3: of a nil reader; within other parts, of which there may be one less than MaxParts.
func TestLoadReaders(t *testing.T) {
	k := loaded(t, other())
	if e := k.Load(nil); e != api.ErrNil {
		t.Error("Load of a nil reader: error", e)
	}
	wantState(t, k, other())
	for _, open := range []int{1, api.MaxParts - 1, api.MaxParts} {
		body := unlike().part()
		for range open {
			body = slices.Concat([]uint8{9}, long(len(body)), body)
		}
		r := reader(t, body)
		for range open {
			r.Open(9)
		}
		k = loaded(t, other())
		e := k.Load(r)
		switch {
		case open == api.MaxParts:
			if e != api.ErrLarge {
				t.Errorf("Load within %d parts: error %d", open, e)
			}
			wantState(t, k, other())
		case e != api.OK || r.Left() != 0 || r.Close() != api.OK:
			t.Errorf("Load within %d parts: error %d", open, e)
		default:
			wantState(t, k, unlike())
		}
	}
}

// P13.3, R1, R7: of any bytes Load answers an error, and nothing has changed, or the state is just these bytes.
func TestAnyBytesAreLoaded(t *testing.T) {
	r := rand.New(rand.NewSource(131))
	taken := 0
	k := tick.New()
	for range 60000 {
		body := unlike().part()
		for range 1 + r.Intn(3) {
			body[r.Intn(len(body))] = some(r)
		}
		before := bodyOf(t, k)
		if k.Load(reader(t, body)) == api.OK {
			taken++
			before = body
		}
		if got := bodyOf(t, k); !bytes.Equal(got, before) {
			t.Fatalf("Load of % X: the state is % X, want % X", body, got, before)
		}
	}
	if taken < 1000 || taken > 59000 {
		t.Error(taken, "were taken")
	}
}
