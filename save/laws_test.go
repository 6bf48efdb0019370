package save_test

import (
	"bytes"
	"math/rand"
	"testing"

	"lanthorn/api"
	"lanthorn/save"
)

// anItem is a value, of any number that its kind has.
func anItem(r *rand.Rand) item {
	x := item{kind: r.Intn(aRow + 1)}
	switch x.kind {
	case aRow:
		x.row = noughts(r.Intn(9))
		r.Read(x.row)
	case aFlag:
		x.n = r.Uint64() % 2
	default:
		x.n = r.Uint64() >> (64 - 8<<x.kind) // a byte, a word, a long, a number: eight bits, and twice as many each time
	}
	return x
}

// items are values in parts, each of which is closed.
func items(r *rand.Rand, deep int) []item {
	var l []item
	for range r.Intn(5) {
		l = append(l, anItem(r))
		if deep < api.MaxParts && r.Intn(2) > 0 {
			l = append(l, item{kind: anOpen, n: r.Uint64() % 256})
			l = append(l, items(r, deep+1)...)
			l = append(l, item{kind: aClose})
		}
	}
	return l
}

// written are the saved bytes of what is put.
func written(t *testing.T, l []item) []byte {
	t.Helper()
	w := save.NewWriter()
	for _, x := range l {
		tell(w, x)
	}
	b, e := w.Done()
	if e != api.OK {
		t.Fatalf("Done of %d items: error %d", len(l), e)
	}
	return b
}

// P5.7: what a writer put a reader takes, value by value, part by part; then it is done; saved again it gives the same bytes.
func TestPutIsTaken(t *testing.T) {
	r := rand.New(rand.NewSource(1))
	for range 2000 {
		l := items(r, 0)
		b := written(t, l)
		from, e := save.NewReader(b)
		if e != api.OK {
			t.Fatal("NewReader: error", e)
		}
		var again []item
		for _, x := range l {
			got := ask(from, x.kind, max(int(x.n%256), len(x.row)))
			want := taken{row: string(x.row)}
			if x.kind < aRow {
				want.n = x.n
			}
			if got != want {
				t.Fatalf("put %s %x % x, taken %+v", names()[x.kind], x.n, x.row, got)
			}
			y := item{kind: x.kind, n: got.n, row: []byte(got.row)}
			if x.kind == anOpen {
				y.n = x.n
			}
			again = append(again, y)
		}
		wantTaken(t, from, kinds, 0, taken{}, 0)
		if !bytes.Equal(written(t, again), b) {
			t.Fatal("saved again, what was read gives other bytes")
		}
	}
}

// P5.7: saved bytes of which any one byte is changed, some at the end are left out, or more are put behind, are refused.
func TestChangedIsRefused(t *testing.T) {
	r := rand.New(rand.NewSource(2))
	refused := func(what string, b []byte) {
		t.Helper()
		if from, e := save.NewReader(b); e == api.OK || from != nil {
			t.Fatalf("%s: error %d", what, e)
		}
	}
	for range 40 {
		b := written(t, items(r, api.MaxParts-2))
		for i := range b {
			for more := 1; more < 256; more++ {
				b[i]++
				refused("one byte changed", b)
			}
			b[i]++
			refused("left out at the end", b[:i])
		}
		for n := 1; n < 40; n++ {
			behind := noughts(n)
			refused("noughts behind", append(bytes.Clone(b), behind...))
			r.Read(behind)
			refused("bytes behind", append(bytes.Clone(b), behind...))
		}
		if _, e := save.NewReader(b); e != api.OK {
			t.Fatal("as they were: error", e)
		}
	}
}

// P5.1, P5.2: whatever a writer is told, in whichever order, it has put what the naive one has, or answers its error.
func TestAnythingIsPut(t *testing.T) {
	r := rand.New(rand.NewSource(3))
	ended := map[api.Errno]int{}
	for range 3000 {
		w, naive := save.NewWriter(), newNaiveWriter()
		ups, downs := 1+r.Intn(8), 1+r.Intn(4)
		for range 60 {
			x := anItem(r)
			switch n := r.Intn(16); {
			case n < ups:
				x = item{kind: anOpen, n: r.Uint64() % 256}
			case n < ups+downs && (len(naive.tags) > 0 || r.Intn(20) == 0):
				x = item{kind: aClose}
			}
			tell(w, x)
			naive.put(x)
			want, wantE := naive.done()
			if b, e := w.Done(); e != wantE || !bytes.Equal(b, want) {
				t.Fatalf("Done: % x, error %d, want % x, error %d", b, e, want, wantE)
			}
			ended[wantE]++
		}
	}
	for _, e := range []api.Errno{api.OK, api.ErrOpen, api.ErrArg, api.ErrLarge} {
		if ended[e] == 0 {
			t.Errorf("no row of calls came to error %d", e)
		}
	}
}

// P5.4 to P5.6: whatever a reader is asked of whatever body, it answers as the naive one does, and has as much left.
func TestAnythingIsTaken(t *testing.T) {
	r := rand.New(rand.NewSource(4))
	answers := map[api.Errno]int{}
	for range 20000 {
		body := noughts(r.Intn(60))
		for i := range body {
			body[i] = byte([]int{0, 0, 0, 0, 1, 2, 5, r.Intn(20), r.Intn(256)}[r.Intn(9)])
		}
		if r.Intn(4) == 0 { // many parts in one another
			for range 10 + r.Intn(10) {
				body = append(append([]byte{0}, low(uint64(len(body)), 4)...), body...)
			}
		}
		from, naive := reading(t, body...), &naiveReader{[][]byte{body}}
		for range 40 {
			kind := []int{r.Intn(kinds + 1), anOpen}[r.Intn(2)]
			arg := []int{0, 0, 1, 2, -1, r.Intn(30), least, most}[r.Intn(8)]
			want := naive.ask(kind, arg)
			answers[want.e]++
			if got := ask(from, kind, arg); got != want || from.Left() != naive.left() {
				t.Fatalf("of the body % x: taking %s (%d): %+v, %d left, want %+v, %d", body, names()[kind], arg, got, from.Left(), want, naive.left())
			}
		}
	}
	for _, e := range []api.Errno{api.OK, api.ErrArg, api.ErrLarge, api.ErrOpen, api.ErrLength, api.ErrEnd, api.ErrFlag, api.ErrTag, api.ErrLeft} {
		if answers[e] == 0 {
			t.Errorf("no call came to error %d", e)
		}
	}
}

// P1, R1: of whatever bytes NewReader answers a reader or an error, and panics at none.
func TestAnythingIsRead(t *testing.T) {
	r := rand.New(rand.NewSource(5))
	for range 20000 {
		b := noughts(r.Intn(40))
		r.Read(b)
		copy(b, "LANT\x01"[:r.Intn(6)])
		if r.Intn(2) == 0 && len(b) >= 13 {
			copy(b[5:], low(uint64(len(b)-13), 4))
		}
		right := len(b) >= 13 && bytes.Equal(b, headed(b[13:]))
		if from, e := save.NewReader(b); (e == api.OK) != right || (from != nil) != right {
			t.Fatalf("NewReader of % x: error %d", b, e)
		}
	}
}
