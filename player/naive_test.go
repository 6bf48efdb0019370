package player_test

import (
	"math/rand"
	"slices"
	"testing"

	"lanthorn/api"
	"lanthorn/player"
	"lanthorn/save"
	"lanthorn/tune"
)

// naive is the chapter once more: it keeps what the Words say that a player has, and works everything out anew each time.
type naive struct {
	regs api.Pegs
	seen []uint8
	done int
}

// next is the first access that was not carried out yet.
func (n naive) next() api.Access {
	list, _, _ := tune.Course(n.regs, n.seen)
	return list[n.done]
}

// step is the player behind a cycle.
func (n naive) step(v uint8) naive {
	if n.next().Kind == api.Read {
		n.seen = append(slices.Clone(n.seen), v)
	}
	n.done++
	if list, all, behind := tune.Course(n.regs, n.seen); all && n.done == len(list) {
		return naive{regs: behind}
	}
	return n
}

// saved is what is put of the state.
func (n naive) saved() saved {
	r := n.regs
	return saved{bytes: [5]uint8{r.A, r.X, r.Y, r.S, r.Psw}, pc: r.Pc, halt: truth(r.Halt), done: uint8(n.done), seen: n.seen}
}

func truth(is bool) uint8 {
	if is {
		return 1
	}
	return 0
}

// canBe tells whether a player comes to stand there, if it is fed with just these bytes.
func (n naive) canBe() bool {
	m, seen := naive{regs: n.regs}, n.seen
	for range n.done {
		v := uint8(0)
		if m.next().Kind == api.Read {
			if len(seen) == 0 {
				return false
			}
			v, seen = seen[0], seen[1:]
		}
		if m = m.step(v); m.done == 0 {
			return false
		}
	}
	return len(seen) == 0
}

// bodyOf are the bytes of which a player's state consists.
func bodyOf(t *testing.T, p *player.Player) []uint8 {
	t.Helper()
	w := save.NewWriter()
	p.Save(w)
	b, e := w.Done()
	if e != api.OK {
		t.Fatal("Save: error", e)
	}
	return b[13:]
}

// reader is a reader of a body.
func reader(t *testing.T, body []uint8) *save.Reader {
	t.Helper()
	w := save.NewWriter()
	for _, v := range body {
		w.Byte(v)
	}
	b, _ := w.Done()
	r, e := save.NewReader(b)
	if e != api.OK {
		t.Fatal("NewReader: error", e)
	}
	return r
}

// loaded is a player with a state, which was another one.
func loaded(t *testing.T, body []uint8) *player.Player {
	t.Helper()
	p := player.New(api.Pegs{A: 1, X: 2, Y: 3, S: 4, Psw: 5, Pc: 6})
	p.Step(0x3f)
	p.Step(0x3f)
	r := reader(t, body)
	if e := p.Load(r); e != api.OK || r.Done() != api.OK {
		t.Fatalf("Load of % X: error %d", body, e)
	}
	return p
}

// wantSame asks of a player all that the naive one tells.
func wantSame(t *testing.T, p *player.Player, n naive) {
	t.Helper()
	if p.Next() != n.next() || p.Pegs() != n.regs || p.Done() != n.done || !slices.Equal(bodyOf(t, p), n.saved().part()) {
		t.Fatalf("next %X, %+v, %d, % X;\nwant %X, %+v", p.Next(), p.Pegs(), p.Done(), bodyOf(t, p), n.next(), n)
	}
}

// some is a byte, often one at an edge.
func some(r *rand.Rand) uint8 {
	if r.Intn(3) == 0 {
		return []uint8{0, 1, 0x0f, 0x10, 0x7f, 0x80, 0x99, 0xfe, 0xff}[r.Intn(9)]
	}
	return uint8(r.Intn(256))
}

// somePegs is registers, seldom of a player that has halted.
func somePegs(r *rand.Rand) api.Pegs {
	return api.Pegs{A: some(r), X: some(r), Y: some(r), S: some(r), Psw: uint8(r.Intn(256)), Pc: uint16(some(r))<<8 | uint16(some(r)), Halt: r.Intn(40) == 0}
}

// P12.1, P12.2, P12.4: of each code, whatever its bytes are, and of what comes behind it: the player stands where the naive one does, saved and loaded or not.
func TestAnythingIsPlayed(t *testing.T) {
	r := rand.New(rand.NewSource(121))
	for code := range 256 {
		for range 30 {
			n := naive{regs: somePegs(r)}
			p := player.New(n.regs)
			v := uint8(code)
			for range 30 {
				wantSame(t, p, n)
				if r.Intn(4) == 0 {
					p = loaded(t, bodyOf(t, p))
					wantSame(t, p, n)
				}
				if want, got := n.next(), p.Step(v); got != want {
					t.Fatalf("code %02X: the step did %X, want %X of %+v", code, got, want, n)
				}
				n = n.step(v)
				v = some(r)
			}
		}
	}
}

// aState is a state, which perhaps can't be.
func aState(r *rand.Rand) naive {
	n := naive{regs: somePegs(r)}
	for range r.Intn(9) {
		n = n.step(some(r))
	}
	switch n.seen = slices.Clone(n.seen); r.Intn(8) {
	case 0:
		n.done += r.Intn(5) - 2
	case 1:
		n.done = r.Intn(256)
	case 2:
		n.seen = append(n.seen, make([]uint8, 1+r.Intn(14))...)
	case 3:
		n.seen = n.seen[:r.Intn(len(n.seen)+1)]
	case 4:
		n.regs.Halt = !n.regs.Halt
	case 5:
		if len(n.seen) > 0 {
			n.seen[r.Intn(len(n.seen))] = some(r)
		}
	}
	n.done = max(n.done, 0)
	return n
}

// P12.4, R7: of any state Load takes those that a player may have, and refuses the others; what it takes is put again as the same bytes, and goes on as the naive one.
func TestAnyStateIsLoaded(t *testing.T) {
	r := rand.New(rand.NewSource(122))
	taken := map[bool]int{}
	p := player.New(somePegs(r))
	for range 60000 {
		n := aState(r)
		before, next := bodyOf(t, p), p.Next()
		e := p.Load(reader(t, n.saved().part()))
		can := n.canBe()
		taken[can]++
		switch {
		case can && e == api.OK:
			wantSame(t, p, n)
			for range r.Intn(12) {
				v := some(r)
				p.Step(v)
				n = n.step(v)
			}
			wantSame(t, p, n)
		case can || e != api.ErrPlayer:
			t.Fatalf("Load of %+v: error %d; it can be: %v", n, e, can)
		case !slices.Equal(bodyOf(t, p), before) || p.Next() != next:
			t.Fatalf("Load of %+v, which is refused, changes the player", n)
		}
	}
	if taken[true] < 10000 || taken[false] < 10000 {
		t.Errorf("%d states that can be, %d that can't", taken[true], taken[false])
	}
}
