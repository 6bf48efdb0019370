package voices_test

import (
	"bytes"
	"math"
	"math/rand"
	"slices"
	"testing"

	"lanthorn/api"
	"lanthorn/save"
	"lanthorn/voices"
)

// saved is a state that is put by hand, in the chapter's order.
type saved struct {
	regs   [128]uint8
	number int64
	noise  uint16
	begin  uint8
	place  uint16
	row    [16]int16 // left and right in turn, oldest first
	voices [8]savedVoice

	longer map[int]int // by how much a row is longer than told: the registers' is the row 0, the echo's 1, the line of the voice k 2 + k
	tag    int         // how much more than 16 the tag is
	size   int         // how many bytes more the part says to have than it has
	more   int         // how many noughts stand behind the last byte, within the part
}

// savedVoice is a voice of it.
type savedVoice struct {
	block uint16
	head  uint8
	place uint16
	phase uint8
	level uint16
	line  [18]int16
}

// few are the lowest bytes of a number, the lowest first.
func few(x int64, count int) []uint8 {
	b := make([]uint8, count)
	for i := range b {
		b[i] = uint8(x >> (8 * i))
	}
	return b
}

// words are samples, as bytes.
func words(s []int16) []uint8 {
	var b []uint8
	for _, x := range s {
		b = append(b, few(int64(x), 2)...)
	}
	return b
}

// rowOf is a row of bytes, of the number k.
func (s *saved) rowOf(k int, b []uint8) []uint8 {
	n := max(0, len(b)+s.longer[k])
	b = append(slices.Clone(b), make([]uint8, 1000)...)[:n]
	return append(few(int64(n), 4), b...)
}

func (s saved) part() []uint8 {
	b := slices.Concat(s.rowOf(0, s.regs[:]), few(s.number, 8), few(int64(s.noise), 2), []uint8{s.begin}, few(int64(s.place), 2), s.rowOf(1, words(s.row[:])))
	for k, c := range s.voices {
		b = slices.Concat(b, few(int64(c.block), 2), []uint8{c.head}, few(int64(c.place), 2), []uint8{c.phase}, few(int64(c.level), 2), s.rowOf(2+k, words(c.line[:])))
	}
	b = append(b, make([]uint8, s.more)...)
	return slices.Concat([]uint8{uint8(16 + s.tag)}, few(int64(len(b)+s.size), 4), b)
}

// of is a state, changed.
func of(s saved, change func(s *saved)) saved {
	change(&s)
	return s
}

// fresh is the state at first.
func fresh() saved {
	s := saved{noise: 0x4000}
	s.regs[0x6c] = 0xe0
	return s
}

// unlike is a state whose neighbouring bytes are all unlike.
func unlike() saved {
	s := saved{number: 0x0807060504030201, noise: 0x4711, begin: 0x5a, place: 0x1234}
	for i := range s.regs {
		s.regs[i] = uint8(3*i + 1)
	}
	for i := range s.row {
		s.row[i] = int16(0x7f03*i + 0x0102)
	}
	for k := range s.voices {
		c := savedVoice{block: uint16(0x2143 + 0x1111*k), head: uint8(0x90 + k), place: uint16(0x8765 + 0x0101*k), phase: uint8(k % 4), level: uint16(0x7ff - 0x81*k)}
		for i := range c.line {
			c.line[i] = int16(0x6b05*i + 0x0203*k + 0x0405)
		}
		s.voices[k] = c
	}
	return s
}

// other is a state that has little in common with unlike's.
func other() saved {
	s := saved{number: -3, noise: 0x7fff, begin: 0x81, place: 30716}
	for i := range s.regs {
		s.regs[i] = uint8(200 - i)
	}
	for k := range s.voices {
		s.voices[k] = savedVoice{block: uint16(k), head: 1, place: 0xffff, phase: 3, level: uint16(k), line: [18]int16{17: -1}}
	}
	return s
}

// bodyOf are the bytes of which a state consists.
func bodyOf(t *testing.T, v *voices.Voices) []uint8 {
	t.Helper()
	w := save.NewWriter()
	v.Save(w)
	b, e := w.Done()
	if e != api.OK {
		t.Fatal("Save: error", e)
	}
	return b[13:]
}

// reader is a reader of a body.
func reader(t *testing.T, body []uint8) *save.Reader {
	t.Helper()
	w := save.NewWriter()
	for _, v := range body {
		w.Byte(v)
	}
	b, _ := w.Done()
	r, e := save.NewReader(b)
	if e != api.OK {
		t.Fatal("NewReader: error", e)
	}
	return r
}

// loaded is one with a state, which was in another one.
func loaded(t *testing.T, s saved) *voices.Voices {
	t.Helper()
	v := voices.New()
	v.Write(0x31, 0x99)
	v.Write(0x4c, 0xff)
	r := reader(t, s.part())
	if e := v.Load(r); e != api.OK || r.Done() != api.OK {
		t.Fatalf("Load of % X: error %d", s.part(), e)
	}
	return v
}

// readBack is the state that stands in bytes, which are as many as they should be.
func readBack(body []uint8) saved {
	at := 5
	take := func(count int) int64 {
		x := int64(0)
		for i := range count {
			x |= int64(body[at+i]) << (8 * i)
		}
		at += count
		return x
	}
	row := func(s []int16) {
		at += 4
		for i := range s {
			s[i] = int16(take(2))
		}
	}
	var s saved
	at += 4 + copy(s.regs[:], body[at+4:])
	s.number, s.noise, s.begin, s.place = take(8), uint16(take(2)), uint8(take(1)), uint16(take(2))
	row(s.row[:])
	for k := range s.voices {
		c := &s.voices[k]
		c.block, c.head, c.place, c.phase, c.level = uint16(take(2)), uint8(take(1)), uint16(take(2)), uint8(take(1)), uint16(take(2))
		row(c.line[:])
	}
	return s
}

// wantState asks for a state; it tells in which values it is another one.
func wantState(t *testing.T, v *voices.Voices, want saved) {
	t.Helper()
	body := bodyOf(t, v)
	if bytes.Equal(body, want.part()) {
		return
	}
	if len(body) != len(want.part()) {
		t.Errorf("%d bytes are saved, want %d", len(body), len(want.part()))
		return
	}
	got := readBack(body)
	for i := range got.regs {
		if got.regs[i] != want.regs[i] {
			t.Errorf("register %02X: %02X, want %02X", i, got.regs[i], want.regs[i])
		}
	}
	if got.number != want.number || got.noise != want.noise || got.begin != want.begin || got.place != want.place || got.row != want.row {
		t.Errorf("number %d, noise %04X, begin %02X, the echo's place %d, row %d, want\n%d, %04X, %02X, %d, %d", got.number, got.noise, got.begin, got.place, got.row, want.number, want.noise, want.begin, want.place, want.row)
	}
	for k := range got.voices {
		if got.voices[k] != want.voices[k] {
			t.Errorf("voice %d: %+v, want\n%+v", k, got.voices[k], want.voices[k])
		}
	}
	if !t.Failed() {
		t.Errorf("% X, want\n% X", body, want.part())
	}
}

// P16.3: what is put, byte by byte.
func TestPut(t *testing.T) {
	want := slices.Concat([]uint8{16, 0x35, 0x02, 0, 0, 128, 0, 0, 0}, make([]uint8, 0x6c), []uint8{0xe0}, make([]uint8, 0x13+8), []uint8{0x00, 0x40, 0, 0, 0, 32, 0, 0, 0}, make([]uint8, 32))
	for range 8 {
		want = slices.Concat(want, make([]uint8, 8), []uint8{36, 0, 0, 0}, make([]uint8, 36))
	}
	if got := bodyOf(t, voices.New()); !bytes.Equal(got, want) {
		t.Errorf("% X, want\n% X", got, want)
	}
	if !bytes.Equal(fresh().part(), want) {
		t.Error("the test's own state is another one")
	}
}

// P16.3: each value has its place: the state that was loaded is put again, and what it says is heard.
func TestLoadThenPut(t *testing.T) {
	for _, s := range []saved{fresh(), unlike(), other()} {
		v := loaded(t, s)
		wantState(t, v, s)
		wantState(t, v, s)
		for reg := range 256 {
			if got := v.Read(uint8(reg)); got != s.regs[reg%128] {
				t.Errorf("register %02X: %02X, want %02X", reg, got, s.regs[reg%128])
			}
		}
	}
}

// P16.3: a part of it stands among others; a writer that is not there, and one that gave up.
func TestSaveWriters(t *testing.T) {
	w := save.NewWriter()
	w.Byte(7)
	voices.New().Save(w)
	loaded(t, unlike()).Save(w)
	w.Byte(8)
	voices.New().Save(nil)
	b, _ := w.Done()
	if want := slices.Concat([]uint8{7}, fresh().part(), unlike().part(), []uint8{8}); !bytes.Equal(b[13:], want) {
		t.Errorf("% X, want\n% X", b[13:], want)
	}
	var none *voices.Voices
	w = save.NewWriter()
	none.Save(w)
	none.Save(nil)
	if b, e := w.Done(); len(b) != 13 || e != api.OK {
		t.Errorf("nil ones save % X, error %d", b, e)
	}
}

// wantRefused asks that loading a body is refused, and all is as it was.
func wantRefused(t *testing.T, what string, body []uint8, want api.Errno) {
	t.Helper()
	v := loaded(t, other())
	if e := v.Load(reader(t, body)); e != want {
		t.Errorf("%s: error %d, want %d", what, e, want)
	}
	wantState(t, v, other())
}

// P16.3: states that can't be, at the edge, and those that just can be.
func TestLoadEdges(t *testing.T) {
	change := map[string]func(s *saved){
		"the noise":                  func(s *saved) { s.noise = 0x8000 },
		"the greatest noise":         func(s *saved) { s.noise = 0xffff },
		"the echo's place":           func(s *saved) { s.place = 30720 },
		"the greatest echo's place":  func(s *saved) { s.place = 0xfffc },
		"the echo's place, 1 beside": func(s *saved) { s.place = 1 },
		"the echo's place, 2 beside": func(s *saved) { s.place = 30714 },
		"the echo's place, 3 beside": func(s *saved) { s.place = 30719 },
	}
	for what, do := range change {
		wantRefused(t, what, of(unlike(), do).part(), api.ErrVoices)
	}
	for k := range 8 {
		for _, phase := range []uint8{4, 7, 128, 255} {
			wantRefused(t, "a phase", of(unlike(), func(s *saved) { s.voices[k].phase = phase }).part(), api.ErrVoices)
		}
		for _, level := range []uint16{2048, 0x8000, 0xffff, 0x8001} {
			wantRefused(t, "a level", of(unlike(), func(s *saved) { s.voices[k].level = level }).part(), api.ErrVoices)
		}
	}
	for _, do := range []func(s *saved){
		func(s *saved) { s.noise, s.place, s.number = 0x7fff, 30716, math.MaxInt64 },
		func(s *saved) { s.noise, s.place, s.number = 0, 0, math.MinInt64 },
		func(s *saved) { s.place, s.voices[7].level, s.voices[7].phase = 4, 2047, 3 },
		func(s *saved) { s.voices[0].head, s.voices[0].place, s.voices[0].phase = 0xff, 0xffff, 0 },
	} {
		s := of(unlike(), do)
		wantState(t, loaded(t, s), s)
	}
}

// P16.3: rows that are shorter or longer than told; what comes first counts.
func TestLoadRows(t *testing.T) {
	sizes := append([]int{128, 32}, slices.Repeat([]int{36}, 8)...)
	for k, size := range sizes {
		for _, longer := range []int{-size, -2, -1} {
			wantRefused(t, "a shorter row", of(unlike(), func(s *saved) { s.longer = map[int]int{k: longer} }).part(), api.ErrVoices)
		}
		for _, longer := range []int{1, 2, 300} {
			wantRefused(t, "a longer row", of(unlike(), func(s *saved) { s.longer = map[int]int{k: longer} }).part(), api.ErrLarge)
		}
		for later := k + 1; later < len(sizes); later++ {
			wantRefused(t, "a shorter row, a longer one", of(unlike(), func(s *saved) { s.longer = map[int]int{k: -1, later: 1} }).part(), api.ErrVoices)
			wantRefused(t, "a longer row, a shorter one", of(unlike(), func(s *saved) { s.longer = map[int]int{k: 1, later: -1} }).part(), api.ErrLarge)
		}
		body := of(unlike(), func(s *saved) { s.longer, s.more, s.noise = map[int]int{k: -1}, 3, 0x8000 }).part()
		wantRefused(t, "a shorter row, something left, the noise", body, api.ErrVoices)
	}
	cut := of(unlike(), func(s *saved) { s.longer = map[int]int{0: -1} }).part()[:5+4+127]
	copy(cut[1:], few(int64(len(cut)-5), 4))
	wantRefused(t, "a shorter row, and nothing behind it", cut, api.ErrVoices)
}

// P16.3: each of the reader's errors; they go ahead of ErrVoices, where all is to be read first.
func TestLoadErrors(t *testing.T) {
	all := len(unlike().part()) - 5
	for _, x := range []struct {
		what   string
		change func(s *saved)
		want   api.Errno
	}{
		{"another tag", func(s *saved) { s.tag = 1 }, api.ErrTag},
		{"the tag to the base 16", func(s *saved) { s.tag = 6 }, api.ErrTag},
		{"another tag, the noise", func(s *saved) { s.tag, s.noise = -1, 0x8000 }, api.ErrTag},
		{"a part that is longer than all", func(s *saved) { s.size = 1 }, api.ErrLength},
		{"a part that ends too early", func(s *saved) { s.size = -1 }, api.ErrEnd},
		{"a part without anything", func(s *saved) { s.size = -all }, api.ErrEnd},
		{"a part that ends too early, the noise", func(s *saved) { s.size, s.noise = -1, 0x8000 }, api.ErrEnd},
		{"a part that ends too early, the echo's place", func(s *saved) { s.size, s.place = -40, 1 }, api.ErrEnd},
		{"something left", func(s *saved) { s.more = 1 }, api.ErrLeft},
		{"something left, the noise", func(s *saved) { s.more, s.noise = 1, 0x8000 }, api.ErrLeft},
		{"something left, a phase", func(s *saved) { s.more, s.voices[3].phase = 1, 4 }, api.ErrLeft},
		{"something left, a level", func(s *saved) { s.more, s.voices[3].level = 9, 2048 }, api.ErrLeft},
		{"something left, the echo's place", func(s *saved) { s.more, s.place = 9, 1 }, api.ErrLeft},
	} {
		wantRefused(t, x.what, of(unlike(), x.change).part(), x.want)
	}
	for n := range all + 5 {
		want := api.ErrEnd
		if n >= 5 { // the part's head is there, and says more than there is
			want = api.ErrLength
		}
		wantRefused(t, "the first bytes alone", unlike().part()[:n], want)
		if n >= 5 {
			cut := unlike().part()[:n]
			copy(cut[1:], few(int64(n-5), 4))
			wantRefused(t, "the first values alone", cut, api.ErrEnd)
		}
	}
}

// P16.3: of a nil reader; within other parts, of which there may be one less than MaxParts.
func TestLoadReaders(t *testing.T) {
	v := loaded(t, other())
	if e := v.Load(nil); e != api.ErrNil {
		t.Error("Load of a nil reader: error", e)
	}
	wantState(t, v, other())
	var none *voices.Voices
	if e := none.Load(reader(t, nil)); e != api.ErrNil {
		t.Error("Load of nil ones: error", e)
	}
	for _, open := range []int{1, api.MaxParts - 1, api.MaxParts} {
		body := unlike().part()
		for range open {
			body = slices.Concat([]uint8{9}, few(int64(len(body)), 4), body)
		}
		r := reader(t, body)
		for range open {
			r.Open(9)
		}
		v = loaded(t, other())
		e := v.Load(r)
		switch {
		case open == api.MaxParts:
			if e != api.ErrLarge {
				t.Errorf("Load within %d parts: error %d", open, e)
			}
			wantState(t, v, other())
		case e != api.OK || r.Left() != 0 || r.Close() != api.OK:
			t.Errorf("Load within %d parts: error %d", open, e)
		default:
			wantState(t, v, unlike())
		}
	}
}

// P16.3, R1, R7: of any bytes Load answers an error, and nothing has changed, or the state is just these bytes.
func TestAnyBytesAreLoaded(t *testing.T) {
	r := rand.New(rand.NewSource(161))
	taken := 0
	v := voices.New()
	for range 20000 {
		body := unlike().part()
		for range 1 + r.Intn(6) {
			body[r.Intn(len(body))] = some(r)
		}
		before := bodyOf(t, v)
		if v.Load(reader(t, body)) == api.OK {
			taken++
			before = body
		}
		if got := bodyOf(t, v); !bytes.Equal(got, before) {
			t.Fatalf("Load of % X: the state is % X, want % X", body, got, before)
		}
		if r.Intn(100) == 0 { // such a state goes on, too
			v.Many(someMemory(r), 50)
		}
	}
	if taken < 1000 || taken > 19000 {
		t.Error(taken, "were taken")
	}
}

// canBe is what the chapter says against a state, turned.
func (s *saved) canBe() bool {
	for _, c := range s.voices {
		if c.phase > 3 || c.level > 2047 {
			return false
		}
	}
	return s.noise < 0x8000 && s.place < 30720 && s.place%4 == 0
}

// P16.3, R7: of any state Load takes those that can be, and refuses the others.
func TestAnyStateIsLoaded(t *testing.T) {
	r := rand.New(rand.NewSource(162))
	v, was := voices.New(), fresh()
	for i := range 4000 {
		s := aState(r)
		if i%2 == 1 {
			spoil(r, &s)
		}
		e := v.Load(reader(t, s.part()))
		switch can := s.canBe(); {
		case can && e == api.OK:
			was = s
		case can, e != api.ErrVoices:
			t.Fatalf("Load of %+v: error %d", s, e)
		}
		wantState(t, v, was)
		if t.Failed() {
			t.FailNow()
		}
	}
}

// spoil makes a state one that perhaps can't be.
func spoil(r *rand.Rand, s *saved) {
	c := &s.voices[r.Intn(8)]
	switch r.Intn(4) {
	case 0:
		c.phase = uint8(3 + r.Intn(2))
	case 1:
		c.level = uint16(2046 + r.Intn(3))
	case 2:
		s.noise = uint16(0x7ffe + r.Intn(3))
	case 3:
		s.place = uint16(30714 + r.Intn(8))
	}
}
