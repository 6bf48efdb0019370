package save_test

import (
	"bytes"
	"math"
	"strconv"
	"testing"

	"lanthorn/api"
	"lanthorn/save"
)

// The greatest int and the least one.
const (
	most  = math.MaxInt
	least = math.MinInt
)

func noughts(n int) []byte { return make([]byte, n) }

func wantErr(t *testing.T, what string, got, want api.Errno) {
	t.Helper()
	if got != want {
		t.Errorf("%s: error %d, want %d", what, got, want)
	}
}

// wantDone holds what a writer has put against a body.
func wantDone(t *testing.T, what string, w *save.Writer, body ...byte) {
	t.Helper()
	if b, e := w.Done(); e != api.OK || !bytes.Equal(b, headed(body)) {
		t.Errorf("%s: Done: % x, error %d, want the body % x", what, b, e, body)
	}
}

// wantNotDone asks a writer that has nothing to answer.
func wantNotDone(t *testing.T, what string, w *save.Writer, want api.Errno) {
	t.Helper()
	if b, e := w.Done(); e != want || len(b) != 0 {
		t.Errorf("%s: Done: %d bytes, error %d, want %d", what, len(b), e, want)
	}
}

// reading is a reader of a body.
func reading(t *testing.T, body ...byte) *save.Reader {
	t.Helper()
	r, e := save.NewReader(headed(body))
	if e != api.OK || r == nil {
		t.Fatalf("NewReader of the body % x: error %d", body, e)
	}
	return r
}

// wantTaken takes from a reader, and looks what is left.
func wantTaken(t *testing.T, r *save.Reader, kind, arg int, want taken, left int) {
	t.Helper()
	if got := ask(r, kind, arg); got != want {
		t.Errorf("taking %s (%d): %+v, want %+v", names()[kind], arg, got, want)
	}
	if n := r.Left(); n != left {
		t.Errorf("behind %s (%d): %d bytes left, want %d", names()[kind], arg, n, left)
	}
}

func names() []string {
	return []string{aByte: "Byte", aWord: "Word", aLong: "Long", aNumber: "Number", aFlag: "Flag", aRow: "Bytes", anOpen: "Open", aClose: "Close", kinds: "Done"}
}

// The chapter's examples, in their order.
func TestExamples(t *testing.T) {
	w := save.NewWriter()
	w.Byte(7)
	w.Word(258)
	w.Flag(true)
	b, e := w.Done()
	wantErr(t, "Done", e, api.OK)
	want := append([]byte{0x4c, 0x41, 0x4e, 0x54, 1, 4, 0, 0, 0}, append(low(naiveSum([]byte{7, 2, 1, 1}), 4), 7, 2, 1, 1)...)
	if !bytes.Equal(b, want) {
		t.Errorf("Done: % x, want % x", b, want)
	}

	second := save.NewWriter()
	second.Open(9)
	second.Bytes([]byte{5})
	second.Close()
	wantDone(t, "a part", second, 9, 5, 0, 0, 0, 1, 0, 0, 0, 5)

	w = save.NewWriter()
	w.Close()
	w.Byte(1)
	wantNotDone(t, "Close, Byte", w, api.ErrArg)
	w = save.NewWriter()
	w.Open(9)
	wantNotDone(t, "Open", w, api.ErrOpen)

	for text, sum := range map[string]uint32{"": 1, "\x00": 38, "\x00\x00": 1185} {
		if n := save.Sum([]byte(text)); n != sum {
			t.Errorf("Sum of %d noughts: %d, want %d", len(text), n, sum)
		}
	}

	b, _ = second.Done()
	r, e := save.NewReader(b)
	wantErr(t, "NewReader", e, api.OK)
	wantTaken(t, r, anOpen, 8, taken{e: api.ErrTag}, 10)
	wantTaken(t, r, anOpen, 9, taken{}, 5)
	wantTaken(t, r, aRow, 0, taken{e: api.ErrLarge}, 5)
	wantTaken(t, r, aClose, 0, taken{e: api.ErrLeft}, 5)
	wantTaken(t, r, aRow, 1, taken{row: "\x05"}, 0)
	wantTaken(t, r, aClose, 0, taken{}, 0)
	wantTaken(t, r, kinds, 0, taken{}, 0)
}

// P5.6: the sum of bytes of all kinds, of so many that it has gone round, and of those behind which there is room.
func TestSum(t *testing.T) {
	b := noughts(5000)
	for i := range b {
		b[i] = byte(i * 7 / 3)
	}
	for _, n := range []int{0, 1, 2, 7, 8, 100, 5000} {
		before := bytes.Clone(b)
		if got := save.Sum(b[:n]); uint64(got) != naiveSum(b[:n]) {
			t.Errorf("Sum of %d bytes: %d, want %d", n, got, naiveSum(b[:n]))
		}
		if !bytes.Equal(b, before) {
			t.Errorf("Sum of %d bytes changes them", n)
		}
	}
	if save.Sum(nil) != 1 || save.Sum([]byte{255}) != 293 {
		t.Error("Sum of nil, of 255:", save.Sum(nil), save.Sum([]byte{255}))
	}
}

// P5.1: how each value stands, at its edges.
func TestValues(t *testing.T) {
	for _, x := range []struct {
		what string
		put  func(w *save.Writer)
		want []byte
	}{
		{"nothing", func(w *save.Writer) {}, nil},
		{"the byte 255", func(w *save.Writer) { w.Byte(255) }, []byte{255}},
		{"the word 1234", func(w *save.Writer) { w.Word(0x1234) }, []byte{0x34, 0x12}},
		{"the word FFFE", func(w *save.Writer) { w.Word(0xfffe) }, []byte{0xfe, 0xff}},
		{"the long 89ABCDEF", func(w *save.Writer) { w.Long(0x89abcdef) }, []byte{0xef, 0xcd, 0xab, 0x89}},
		{"the number 0123456789ABCDEF", func(w *save.Writer) { w.Number(0x0123456789abcdef) }, []byte{0xef, 0xcd, 0xab, 0x89, 0x67, 0x45, 0x23, 1}},
		{"the number -2", func(w *save.Writer) { w.Number(-2) }, []byte{0xfe, 0xff, 0xff, 0xff, 0xff, 0xff, 0xff, 0xff}},
		{"the least number", func(w *save.Writer) { w.Number(math.MinInt64) }, []byte{0, 0, 0, 0, 0, 0, 0, 0x80}},
		{"the greatest number", func(w *save.Writer) { w.Number(math.MaxInt64) }, []byte{0xff, 0xff, 0xff, 0xff, 0xff, 0xff, 0xff, 0x7f}},
		{"true", func(w *save.Writer) { w.Flag(true) }, []byte{1}},
		{"false", func(w *save.Writer) { w.Flag(false) }, []byte{0}},
		{"a row", func(w *save.Writer) { w.Bytes([]byte{3, 2, 1}) }, []byte{3, 0, 0, 0, 3, 2, 1}},
		{"a row of 258 bytes", func(w *save.Writer) { w.Bytes(noughts(258)) }, append([]byte{2, 1, 0, 0}, noughts(258)...)},
		{"an empty row", func(w *save.Writer) { w.Bytes([]byte{}) }, noughts(4)},
		{"no row", func(w *save.Writer) { w.Bytes(nil) }, noughts(4)},
		{"a part without bytes", func(w *save.Writer) { w.Open(0); w.Close() }, noughts(5)},
	} {
		w := save.NewWriter()
		x.put(w)
		wantDone(t, x.what, w, x.want...)
	}
}

// P5.1: parts behind one another and in one another, values ahead of them, between and behind.
func TestParts(t *testing.T) {
	w := save.NewWriter()
	w.Byte(1)
	w.Open(0xa0)
	w.Byte(2)
	w.Open(0xa1)
	w.Word(3)
	w.Close()
	w.Byte(4)
	w.Open(0xa1)
	w.Close()
	w.Close()
	w.Open(255)
	w.Flag(true)
	w.Close()
	w.Byte(5)
	wantDone(t, "parts", w,
		1,
		0xa0, 14, 0, 0, 0, 2,
		0xa1, 2, 0, 0, 0, 3, 0,
		4,
		0xa1, 0, 0, 0, 0,
		255, 1, 0, 0, 0, 1,
		5)
	long := save.NewWriter()
	long.Open(7)
	long.Bytes(noughts(0x10203 - 4))
	long.Close()
	wantDone(t, "a long part", long, append([]byte{7, 3, 2, 1, 0, 0xff, 1, 1, 0}, noughts(0x101ff)...)...)
}

// P5.1: as many parts as may be, in one another; one more is too many, and is none when one of them has been closed.
func TestMostParts(t *testing.T) {
	opened := func(n int) *save.Writer {
		w := save.NewWriter()
		for range n {
			w.Open(1)
		}
		return w
	}
	closed := func(w *save.Writer, n int) *save.Writer {
		for range n {
			w.Close()
		}
		return w
	}
	if _, e := closed(opened(api.MaxParts), api.MaxParts).Done(); e != api.OK {
		t.Error("the most parts: error", e)
	}
	wantNotDone(t, "one part more", closed(opened(api.MaxParts+1), api.MaxParts), api.ErrLarge)
	w := closed(opened(api.MaxParts), 1)
	w.Open(2)
	if _, e := closed(w, api.MaxParts).Done(); e != api.OK {
		t.Error("two parts at the bottom: error", e)
	}
}

// P5.1: the body has as many bytes as may be, by whichever call; one more is too many.
func TestMostBytes(t *testing.T) {
	for what, x := range map[string]struct {
		size int
		put  func(w *save.Writer)
	}{
		"Byte":           {1, func(w *save.Writer) { w.Byte(1) }},
		"Word":           {2, func(w *save.Writer) { w.Word(1) }},
		"Long":           {4, func(w *save.Writer) { w.Long(1) }},
		"Number":         {8, func(w *save.Writer) { w.Number(1) }},
		"Flag":           {1, func(w *save.Writer) { w.Flag(true) }},
		"Bytes of three": {7, func(w *save.Writer) { w.Bytes([]byte{1, 2, 3}) }},
		"Bytes of none":  {4, func(w *save.Writer) { w.Bytes(nil) }},
		"Open, Close":    {5, func(w *save.Writer) { w.Open(1); w.Close() }},
		"the whole row":  {api.MaxSave - 4, func(w *save.Writer) { w.Bytes(noughts(api.MaxSave - 8)) }},
	} {
		for _, over := range []int{0, 1} {
			w := save.NewWriter()
			row := noughts(api.MaxSave - 4 - x.size + over)
			w.Bytes(row)
			x.put(w)
			b, e := w.Done()
			if over == 0 && (e != api.OK || len(b) != api.MaxSave+13) {
				t.Errorf("%s up to the bound: %d bytes, error %d", what, len(b), e)
			}
			if over == 1 && (e != api.ErrLarge || len(b) != 0) {
				t.Errorf("%s beyond the bound: %d bytes, error %d", what, len(b), e)
			}
		}
	}
	w := save.NewWriter()
	w.Bytes(noughts(api.MaxSave - 3))
	w.Byte(1) // there would be room for this one alone
	wantNotDone(t, "a row beyond the bound", w, api.ErrLarge)
}

// P5.1, P5.2: what goes wrong first stays, whatever comes behind; a part that is open is asked for behind it.
func TestWrongStays(t *testing.T) {
	w := save.NewWriter()
	w.Byte(1)
	w.Close()
	for range api.MaxParts + 1 {
		w.Open(1)
	}
	w.Bytes(noughts(api.MaxSave))
	wantNotDone(t, "Close first", w, api.ErrArg)
	wantNotDone(t, "Close first, asked again", w, api.ErrArg)

	w = save.NewWriter()
	for range api.MaxParts + 1 {
		w.Open(1)
	}
	wantNotDone(t, "Open first", w, api.ErrLarge)
	for range api.MaxParts + 1 {
		w.Close()
	}
	wantNotDone(t, "Open first, then Close", w, api.ErrLarge)

	w = save.NewWriter()
	w.Open(1)
	w.Bytes(noughts(api.MaxSave))
	w.Close()
	w.Close()
	w.Byte(1)
	wantNotDone(t, "Bytes first", w, api.ErrLarge)
}

// P5.2: the writer goes on behind Done, as if it had not been asked; what it answered is new memory.
func TestDoneGoesOn(t *testing.T) {
	w := save.NewWriter()
	wantDone(t, "nothing", w)
	w.Byte(1)
	first, _ := w.Done()
	kept := bytes.Clone(first)
	w.Open(2)
	wantNotDone(t, "a part is open", w, api.ErrOpen)
	w.Byte(3)
	wantNotDone(t, "a part is open still", w, api.ErrOpen)
	w.Close()
	wantDone(t, "the part is closed", w, 1, 2, 1, 0, 0, 0, 3)
	if !bytes.Equal(first, kept) {
		t.Error("what was answered has changed")
	}
	second, _ := w.Done()
	clear(second[:cap(second)])
	clear(first[:cap(first)])
	w.Byte(4)
	wantDone(t, "behind what was answered was changed", w, 1, 2, 1, 0, 0, 0, 3, 4)
}

// R3: a row that is handed in is neither changed nor kept, the room behind it neither.
func TestRowIsNotKept(t *testing.T) {
	room := []byte{1, 2, 3, 4, 5}
	w := save.NewWriter()
	w.Bytes(room[:2])
	w.Byte(9)
	if !bytes.Equal(room, []byte{1, 2, 3, 4, 5}) {
		t.Error("the row has changed:", room)
	}
	clear(room)
	wantDone(t, "a row that is changed behind", w, 2, 0, 0, 0, 1, 2, 9)
}

// R4, R5: a nil writer puts nothing; writers know nothing of one another.
func TestNoWriter(t *testing.T) {
	var w *save.Writer
	other := save.NewWriter()
	for kind := range kinds {
		tell(w, item{kind: kind, n: 1, row: []byte{1}})
	}
	wantNotDone(t, "nil", w, api.ErrNil)
	wantDone(t, "another one", other)
	third := save.NewWriter()
	third.Byte(1)
	other.Close()
	wantDone(t, "a third one", third, 1)
	wantNotDone(t, "another one", other, api.ErrArg)
}

// P5.3: what NewReader refuses, of several errors the first.
func TestNewReaderErrors(t *testing.T) {
	good := headed([]byte{1, 2, 3})
	changed := func(at ...int) []byte {
		b := bytes.Clone(good)
		for _, i := range at {
			b[i] ^= 0x80
		}
		return b
	}
	for _, x := range []struct {
		what string
		b    []byte
		want api.Errno
	}{
		{"saved bytes", good, api.OK},
		{"a body of none", headed(nil), api.OK},
		{"nil", nil, api.ErrShort},
		{"none", []byte{}, api.ErrShort},
		{"room behind none", good[:0], api.ErrShort},
		{"12 bytes", good[:12], api.ErrShort},
		{"12 bytes of a body of none", headed(nil)[:12], api.ErrShort},
		{"12 noughts", noughts(12), api.ErrShort},
		{"13 noughts", noughts(13), api.ErrMagic},
		{"another first byte", changed(0), api.ErrMagic},
		{"another fourth byte", changed(3), api.ErrMagic},
		{"another mark and all else", changed(1, 4, 5, 9), api.ErrMagic},
		{"the version 81", changed(4), api.ErrVersion},
		{"the version 0", append([]byte("LANT\x00"), good[5:]...), api.ErrVersion},
		{"the version 2", append([]byte("LANT\x02"), good[5:]...), api.ErrVersion},
		{"another version and all behind", changed(4, 5, 9), api.ErrVersion},
		{"more in the head than there are", changed(5), api.ErrLength},
		{"2^31 more in the head than there are", changed(8), api.ErrLength},
		{"another length and sum", changed(5, 9), api.ErrLength},
		{"a byte less", good[:15], api.ErrLength},
		{"no body", good[:13], api.ErrLength},
		{"a byte more", append(bytes.Clone(good), 0), api.ErrLength},
		{"another sum", changed(9), api.ErrSum},
		{"another sum at its end", changed(12), api.ErrSum},
		{"another body", changed(14), api.ErrSum},
	} {
		before := bytes.Clone(x.b)
		r, e := save.NewReader(x.b)
		wantErr(t, "NewReader of "+x.what, e, x.want)
		if (r == nil) != (x.want != api.OK) {
			t.Errorf("NewReader of %s: a reader: %v", x.what, r != nil)
		}
		if !bytes.Equal(x.b, before) {
			t.Errorf("NewReader of %s changes it", x.what)
		}
	}
}

// P5.3: a body of as many bytes as may be is read, one of more refused, though its sum is right.
func TestNewReaderMost(t *testing.T) {
	r := reading(t, noughts(api.MaxSave)...)
	if n := r.Left(); n != api.MaxSave {
		t.Errorf("%d bytes left, want %d", n, api.MaxSave)
	}
	r, e := save.NewReader(headed(noughts(api.MaxSave + 1)))
	wantErr(t, "NewReader of one more", e, api.ErrLength)
	if r != nil {
		t.Error("a reader of one more")
	}
}

// P5.3, R3: saved bytes may be changed behind NewReader, a row behind Bytes.
func TestReaderIsItsOwn(t *testing.T) {
	b := headed([]byte{2, 0, 0, 0, 8, 9, 7, 2, 0, 0, 0, 6, 5})
	r, _ := save.NewReader(b)
	clear(b)
	row, e := r.Bytes(2)
	if e != api.OK || !bytes.Equal(row, []byte{8, 9}) {
		t.Errorf("Bytes: %v, error %d", row, e)
	}
	clear(row[:cap(row)])
	_ = append(row, 1, 1, 1, 1, 1, 1, 1)
	wantTaken(t, r, aByte, 0, taken{n: 7}, 6)
	wantTaken(t, r, aRow, 2, taken{row: "\x06\x05"}, 0)
}

// P5.4: each value is taken, at its edges.
func TestTakeValues(t *testing.T) {
	r := reading(t, 255, 0x34, 0x12, 0xef, 0xcd, 0xab, 0x89, 0xfe, 0xff, 0xff, 0xff, 0xff, 0xff, 0xff, 0xff, 0, 0, 0, 0, 0, 0, 0, 0x80, 0, 1)
	wantTaken(t, r, aByte, 0, taken{n: 255}, 24)
	wantTaken(t, r, aWord, 0, taken{n: 0x1234}, 22)
	wantTaken(t, r, aLong, 0, taken{n: 0x89abcdef}, 18)
	if n, e := r.Number(); n != -2 || e != api.OK {
		t.Errorf("Number: %d, error %d", n, e)
	}
	if n, e := r.Number(); n != math.MinInt64 || e != api.OK {
		t.Errorf("Number: %d, error %d", n, e)
	}
	wantTaken(t, r, aFlag, 0, taken{}, 1)
	wantTaken(t, r, aFlag, 0, taken{n: 1}, 0)
	wantTaken(t, r, kinds, 0, taken{}, 0)
}

// P5.4: values that have not enough bytes left, in the body and in a part behind which the body goes on; nothing is taken of them.
func TestTakeEnd(t *testing.T) {
	for kind, size := range map[int]int{aByte: 1, aWord: 2, aLong: 4, aNumber: 8, aFlag: 1, aRow: 4, anOpen: 5} {
		short := noughts(size - 1)
		end := taken{e: api.ErrEnd}
		r := reading(t, short...)
		wantTaken(t, r, kind, 0, end, size-1)
		r = reading(t, append(append([]byte{9, byte(size - 1), 0, 0, 0}, short...), noughts(20)...)...)
		wantTaken(t, r, anOpen, 9, taken{}, size-1)
		wantTaken(t, r, kind, 0, end, size-1)
		for left := size - 2; left >= 0; left-- {
			wantTaken(t, r, aByte, 0, taken{}, left)
		}
		wantTaken(t, r, aClose, 0, taken{}, 20)
		wantTaken(t, r, aNumber, 0, taken{}, 12)
		r = reading(t, noughts(size)...)
		wantTaken(t, r, kind, 0, taken{}, 0)
	}
}

// P5.4: of all bytes two are truths; what is none is not taken.
func TestTakeFlag(t *testing.T) {
	for v := 2; v < 256; v++ {
		r := reading(t, byte(v), 1)
		wantTaken(t, r, aFlag, 0, taken{e: api.ErrFlag}, 2)
		wantTaken(t, r, aByte, 0, taken{n: uint64(v)}, 1)
		wantTaken(t, r, aFlag, 0, taken{n: 1}, 0)
	}
}

// P5.4: rows that are too long, for what may be or for what there is, of several errors the first.
func TestTakeRow(t *testing.T) {
	for _, x := range []struct {
		body string
		arg  int
		want taken
		left int
	}{
		{"\x02\x00\x00\x00ab", 2, taken{row: "ab"}, 0},
		{"\x02\x00\x00\x00abc", most, taken{row: "ab"}, 1},
		{"\x02\x00\x00\x00ab", 1, taken{e: api.ErrLarge}, 6},
		{"\x02\x00\x00\x00ab", -1, taken{e: api.ErrLarge}, 6},
		{"\x02\x00\x00\x00a", 2, taken{e: api.ErrEnd}, 5},
		{"\x02\x00\x00\x00a", 1, taken{e: api.ErrLarge}, 5},
		{"\x02\x00\x00", -1, taken{e: api.ErrEnd}, 3},
		{"\x00\x00\x00\x00", 0, taken{}, 0},
		{"\x00\x00\x00\x00", -1, taken{e: api.ErrLarge}, 4},
		{"\x00\x00\x00\x00", least, taken{e: api.ErrLarge}, 4},
		{"\xff\xff\xff\xffab", most, taken{e: api.ErrEnd}, 6},
		{"\xff\xff\xff\xffab", 1 << 30, taken{e: api.ErrLarge}, 6},
		{"\xff\xff\xff\xffab", -1, taken{e: api.ErrLarge}, 6},
		{"\x00\x00\x00\x80ab", most, taken{e: api.ErrEnd}, 6},
	} {
		wantTaken(t, reading(t, []byte(x.body)...), aRow, x.arg, x.want, x.left)
	}
	r := reading(t, 9, 6, 0, 0, 0, 3, 0, 0, 0, 1, 2, 3)
	wantTaken(t, r, anOpen, 9, taken{}, 6)
	wantTaken(t, r, aRow, 3, taken{e: api.ErrEnd}, 6)
}

// P5.5: what is no part, of several errors the first; nothing is taken.
func TestTakeOpen(t *testing.T) {
	for _, x := range []struct {
		body string
		arg  int
		want api.Errno
		left int
	}{
		{"\x09\x00\x00\x00\x00", 9, api.OK, 0},
		{"\x09\x01\x00\x00\x00ab", 9, api.OK, 1},
		{"\x00\x02\x00\x00\x00ab", 0, api.OK, 2},
		{"\x09\x00\x00\x00", 9, api.ErrEnd, 4},
		{"\x09\x00\x00\x00", 8, api.ErrEnd, 4},
		{"", 9, api.ErrEnd, 0},
		{"\x09\x00\x00\x00\x00", 8, api.ErrTag, 5},
		{"\x09\xff\x00\x00\x00", 8, api.ErrTag, 5},
		{"\x09\x03\x00\x00\x00ab", 9, api.ErrLength, 7},
		{"\x09\xff\xff\xff\xffab", 9, api.ErrLength, 7},
		{"\x09\x00\x00\x00\x80ab", 9, api.ErrLength, 7},
	} {
		wantTaken(t, reading(t, []byte(x.body)...), anOpen, x.arg, taken{e: x.want}, x.left)
	}
}

// P5.5: a part's length is held against what is left of the part in which it lies, not of the body.
func TestTakeInnerLength(t *testing.T) {
	r := reading(t, append([]byte{9, 6, 0, 0, 0, 8, 2, 0, 0, 0, 1}, noughts(9)...)...)
	wantTaken(t, r, anOpen, 9, taken{}, 6)
	wantTaken(t, r, anOpen, 8, taken{e: api.ErrLength}, 6)
	r = reading(t, append([]byte{9, 6, 0, 0, 0, 8, 1, 0, 0, 0, 1}, noughts(9)...)...)
	wantTaken(t, r, anOpen, 9, taken{}, 6)
	wantTaken(t, r, anOpen, 8, taken{}, 1)
	wantTaken(t, r, aByte, 0, taken{n: 1}, 0)
	wantTaken(t, r, aByte, 0, taken{e: api.ErrEnd}, 0)
	wantTaken(t, r, aClose, 0, taken{}, 0)
	wantTaken(t, r, aByte, 0, taken{e: api.ErrEnd}, 0)
	wantTaken(t, r, aClose, 0, taken{}, 9)
	wantTaken(t, r, aByte, 0, taken{}, 8)
}

// P5.5: as many parts as may be, in one another; one more is refused, whatever else is wrong with it.
func TestTakeMostParts(t *testing.T) {
	for _, end := range []string{"", "a", "\x01\x00\x00\x00\x00", "\x02\x00\x00\x00\x00", "\x01\x09\x00\x00\x00"} {
		body := []byte(end)
		for range api.MaxParts {
			body = append(append([]byte{1}, low(uint64(len(body)), 4)...), body...)
		}
		r := reading(t, body...)
		for n := range api.MaxParts {
			wantTaken(t, r, anOpen, 1, taken{}, len(end)+5*(api.MaxParts-1-n))
		}
		wantTaken(t, r, anOpen, 1, taken{e: api.ErrLarge}, len(end))
		for left := len(end) - 1; left >= 0; left-- {
			r.Byte()
		}
		wantTaken(t, r, anOpen, 1, taken{e: api.ErrLarge}, 0)
		for range api.MaxParts {
			wantTaken(t, r, aClose, 0, taken{}, 0)
		}
		wantTaken(t, r, anOpen, 1, taken{e: api.ErrEnd}, 0)
		wantTaken(t, r, kinds, 0, taken{}, 0)
	}
}

// P5.5, P5.6: Close and Done where they may not be, of several errors the first; they may be asked again.
func TestTakeEnds(t *testing.T) {
	r := reading(t, 9, 1, 0, 0, 0, 7, 8)
	wantTaken(t, r, kinds, 0, taken{e: api.ErrLeft}, 7)
	wantTaken(t, r, aClose, 0, taken{e: api.ErrArg}, 7)
	wantTaken(t, r, anOpen, 9, taken{}, 1)
	wantTaken(t, r, kinds, 0, taken{e: api.ErrOpen}, 1)
	wantTaken(t, r, aClose, 0, taken{e: api.ErrLeft}, 1)
	wantTaken(t, r, aByte, 0, taken{n: 7}, 0)
	wantTaken(t, r, kinds, 0, taken{e: api.ErrOpen}, 0)
	wantTaken(t, r, aClose, 0, taken{}, 1)
	wantTaken(t, r, aClose, 0, taken{e: api.ErrArg}, 1)
	wantTaken(t, r, kinds, 0, taken{e: api.ErrLeft}, 1)
	wantTaken(t, r, aByte, 0, taken{n: 8}, 0)
	wantTaken(t, r, aClose, 0, taken{e: api.ErrArg}, 0)
	wantTaken(t, r, kinds, 0, taken{}, 0)
	wantTaken(t, r, kinds, 0, taken{}, 0)
	wantTaken(t, reading(t), kinds, 0, taken{}, 0)
	r = reading(t, 9, 0, 0, 0, 0)
	wantTaken(t, r, anOpen, 9, taken{}, 0)
	wantTaken(t, r, kinds, 0, taken{e: api.ErrOpen}, 0)
}

// R4, R5: a nil reader answers ErrNil and noughts; readers of the same bytes know nothing of one another.
func TestNoReader(t *testing.T) {
	for kind := range kinds + 1 {
		for _, arg := range []int{-1, 0, 9, most} {
			wantTaken(t, nil, kind, arg, taken{e: api.ErrNil}, 0)
		}
	}
	b := headed([]byte{9, 0, 0, 0, 0})
	r, _ := save.NewReader(b)
	other, _ := save.NewReader(b)
	wantTaken(t, r, anOpen, 9, taken{}, 0)
	wantTaken(t, other, kinds, 0, taken{e: api.ErrLeft}, 5)
}

// The errors have the numbers of the chapter.
func TestErrorNumbers(t *testing.T) {
	for i, e := range []api.Errno{api.ErrOpen, api.ErrShort, api.ErrMagic, api.ErrVersion, api.ErrLength, api.ErrSum, api.ErrEnd, api.ErrFlag, api.ErrTag, api.ErrLeft} {
		if e.Error() != "lanthorn: error "+strconv.Itoa(50+i) {
			t.Error(e)
		}
	}
}
