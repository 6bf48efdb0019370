package reach_test

import (
	"math/rand"
	"slices"
	"testing"

	"lanthorn/api"
	"lanthorn/codes"
	"lanthorn/reach"
)

// rows is the chapter's table once more, by modes. A digit fetches so many bytes: the number n. p is the page's idle, i an idle; x, y add an index to n; w, l read two, three bytes from the direct place n on, which are n; t adds S to n, within the bank 0; v reads two bytes from n on, which are n; b lays n into the bank B; X, Y add an index and take the index's idle; d makes n its direct place.
// A * behind all says that the operand stays in its bank.
var rows = map[uint8]string{
	api.ModeD:        "1pd*",
	api.ModeDX:       "1pixd*",
	api.ModeDY:       "1piyd*",
	api.ModeInd:      "1pwb",
	api.ModeIndLong:  "1pl",
	api.ModeIndX:     "1pixwb",
	api.ModeIndY:     "1pwbY",
	api.ModeIndLongY: "1ply",
	api.ModeAbs:      "2b",
	api.ModeAbsX:     "2bX",
	api.ModeAbsY:     "2bY",
	api.ModeLong:     "3",
	api.ModeLongX:    "3x",
	api.ModeS:        "1it*",
	api.ModeSY:       "1itviby",
}

// naive goes through a row with as many bytes as it needs; it knows nothing of stopping.
type naive struct {
	r    api.Regs
	use  uint8
	seen []uint8
	used int
	list []api.Access
}

func (w *naive) idle() { w.list = append(w.list, api.Access{}) }

func (w *naive) read(addr int) int {
	w.list = append(w.list, api.Access{Kind: api.Read, Addr: uint32(addr)})
	w.used++
	if w.used > len(w.seen) {
		return 0
	}
	return int(w.seen[w.used-1])
}

func (w *naive) direct(n int) int {
	if w.r.E && w.r.D%256 == 0 {
		return int(w.r.D)/256*256 + n%256
	}
	return (int(w.r.D) + n) % 65536
}

// byIndex takes the index's idle.
func (w *naive) byIndex(n int, index uint16) int {
	sum := (n + int(index)) % (1 << 24)
	if w.use == api.UseWrite || w.use == api.UseChange || w.r.P/fX%2 == 0 || n/256 != sum/256 {
		w.idle()
	}
	return sum
}

func (w *naive) step(sign rune, n int) int {
	switch sign {
	case '1', '2', '3':
		for i := range int(sign - '0') {
			n += w.read(int(w.r.K)*65536+int(w.r.PC)) << (8 * i)
			w.r.PC++
		}
	case 'p':
		if w.r.D%256 != 0 {
			w.idle()
		}
	case 'i':
		w.idle()
	case 'x':
		n = (n + int(w.r.X)) % (1 << 24)
	case 'y':
		n = (n + int(w.r.Y)) % (1 << 24)
	case 'X':
		n = w.byIndex(n, w.r.X)
	case 'Y':
		n = w.byIndex(n, w.r.Y)
	case 'd':
		n = w.direct(n)
	case 't':
		n = (n + int(w.r.S)) % 65536
	case 'b':
		n += int(w.r.B) * 65536
	case 'w':
		low := w.read(w.direct(n))
		n = w.read(w.direct(n+1))*256 + low
	case 'l':
		low, middle := w.read(w.direct(n)), w.read(w.direct(n+1))
		n = w.read(w.direct(n+2))*65536 + middle*256 + low
	case 'v':
		low := w.read(n)
		n = w.read((n+1)%65536)*256 + low
	}
	return n
}

// settled is registers, settled, word by word.
func settled(r api.Regs) api.Regs {
	if r.E {
		r.P = r.P/64*64 + 48 + r.P%16
		r.S = 256 + r.S%256
	}
	if r.P/16%2 == 1 {
		r.X, r.Y = r.X%256, r.Y%256
	}
	return r
}

// naiveCourse is a whole course, cut behind the first read of which the byte was not seen.
func naiveCourse(c api.Code, r api.Regs, seen []uint8) ([]api.Access, api.Place, uint16, bool) {
	w := naive{r: settled(r), use: c.Use, seen: seen}
	n, bank := 0, false
	for _, sign := range rows[c.Mode] {
		n = w.step(sign, n)
		bank = sign == '*'
	}
	if w.used <= len(seen) {
		return w.list, api.Place{Addr: uint32(n), Bank: bank}, w.r.PC, true
	}
	reads := 0
	for i, a := range w.list {
		if a.Kind == api.Read {
			reads++
		}
		if reads > len(seen) {
			return w.list[:i+1], api.Place{}, 0, false
		}
	}
	return nil, api.Place{}, 0, false
}

// some is one of the numbers that lie at edges, or any.
func some(r *rand.Rand) uint16 {
	edges := []uint16{0, 1, 0x7f, 0x80, 0xfe, 0xff, 0x100, 0x101, 0x1ff, 0x200, 0x7fff, 0x8000, 0xff00, 0xff01, 0xfffe, 0xffff}
	if r.Intn(3) == 0 {
		return uint16(r.Intn(65536))
	}
	return edges[r.Intn(len(edges))]
}

// someRegs are registers of any kind, those that can't be among them.
func someRegs(r *rand.Rand) api.Regs {
	return api.Regs{A: some(r), X: some(r), Y: some(r), S: some(r), D: some(r), PC: some(r), B: uint8(some(r)), K: uint8(some(r)), P: uint8(r.Intn(256)), E: r.Intn(3) == 0}
}

func someBytes(r *rand.Rand) []uint8 {
	l := make([]uint8, r.Intn(7))
	for i := range l {
		l[i] = uint8(some(r))
	}
	return l
}

// someCode is one of the processor's codes, or fields of any kind.
func someCode(r *rand.Rand) api.Code {
	if r.Intn(2) == 0 {
		return codes.Of(uint8(r.Intn(256)))
	}
	return api.Code{Mode: uint8(r.Intn(28)), Use: uint8(r.Intn(5))}
}

// P7.2: courses of any registers and bytes are those of the chapter's words.
func TestCourseNaive(t *testing.T) {
	r := rand.New(rand.NewSource(7))
	for range 400000 {
		c, regs, seen := someCode(r), someRegs(r), someBytes(r)
		list, p, pc, ok := reach.Course(c, regs, seen)
		wantList, wantP, wantPC, want := naiveCourse(c, regs, seen)
		if !slices.Equal(list, wantList) || p != wantP || pc != wantPC || ok != want {
			t.Fatalf("Course of %+v, %+v, seen % x: %x, %s, %04x, %v, want %x, %s, %04x, %v", c, regs, seen, list, told(p), pc, ok, wantList, told(wantP), wantPC, want)
		}
	}
}

// P7.1: registers of any kind, settled, and their direct places.
func TestSettleNaive(t *testing.T) {
	r := rand.New(rand.NewSource(71))
	for range 100000 {
		regs := someRegs(r)
		if got := reach.Settle(regs); got != settled(regs) {
			t.Fatalf("Settle(%+v): %+v, want %+v", regs, got, settled(regs))
		}
		n := uint32(some(r)) | uint32(some(r))<<16
		w := naive{r: regs}
		if got := reach.Direct(regs, n); got != uint32(w.direct(int(n))) {
			t.Fatalf("Direct(%+v, %x): %x, want %x", regs, n, got, w.direct(int(n)))
		}
	}
}
