package player_test

import (
	"bytes"
	"math/rand"
	"slices"
	"testing"

	"lanthorn/api"
	"lanthorn/player"
	"lanthorn/tune"
)

// anyMemory is a memory of bytes of any kind, in which little halts.
func anyMemory(r *rand.Rand) []uint8 {
	m := make([]uint8, 65536)
	r.Read(m)
	for i, v := range m {
		if v == 0xef || v == 0xff {
			m[i] = uint8(r.Intn(0xef))
		}
	}
	return m
}

// P12.5: a player's cycles, put together, are the instructions of tune.Run on the same memory, one behind the other; the memory is what they write.
func TestInstructions(t *testing.T) {
	r := rand.New(rand.NewSource(124))
	for range 40 {
		m := anyMemory(r)
		other := bytes.Clone(m)
		regs := somePegs(r)
		p := player.New(regs)
		for range 500 {
			list, behind, _ := tune.Run(regs, other)
			for _, a := range list {
				if a.Kind == api.Write {
					other[a.Addr] = a.Value
				}
			}
			did, e := p.Run(m, len(list))
			if e != api.OK || !slices.Equal(did, list) || p.Pegs() != behind || p.Done() != 0 {
				t.Fatalf("it did %X, comes to %+v, %d; want %X, %+v", did, p.Pegs(), p.Done(), list, behind)
			}
			regs = behind
		}
		if !bytes.Equal(m, other) {
			t.Fatal("the memories are not one")
		}
	}
}

// P12.5: Run of two numbers is Run of their sum; cycle by cycle it is what Step does, with the memory's bytes.
func TestSums(t *testing.T) {
	r := rand.New(rand.NewSource(125))
	for range 200 {
		m := anyMemory(r)
		twice, single := bytes.Clone(m), bytes.Clone(m)
		regs := somePegs(r)
		p, q, s := player.New(regs), player.New(regs), player.New(regs)
		a, b := r.Intn(200), r.Intn(200)
		whole, _ := p.Run(m, a+b)
		first, _ := q.Run(twice, a)
		second, _ := q.Run(twice, b)
		if !slices.Equal(slices.Concat(first, second), whole) || !bytes.Equal(bodyOf(t, p), bodyOf(t, q)) || !bytes.Equal(m, twice) {
			t.Fatalf("%d and %d are not %d", a, b, a+b)
		}
		for i := range whole {
			next := s.Next()
			if next.Kind == api.Write {
				single[next.Addr] = next.Value
			}
			if did := s.Step(single[next.Addr]); did != whole[i] || next != did {
				t.Fatalf("cycle %d: %X, %X, want %X", i, next, did, whole[i])
			}
		}
		if !bytes.Equal(bodyOf(t, p), bodyOf(t, s)) || !bytes.Equal(m, single) {
			t.Fatal("step by step they are not one")
		}
	}
}

// P12.5: saved between any two cycles, and loaded into any other player, it goes on just so; saved again it has the same bytes.
func TestSavedGoesOn(t *testing.T) {
	r := rand.New(rand.NewSource(126))
	for range 100 {
		m := anyMemory(r)
		other := bytes.Clone(m)
		straight := player.New(somePegs(r))
		relay := player.New(straight.Pegs())
		for range 100 {
			body := bodyOf(t, relay)
			heir := player.New(somePegs(r))
			for range r.Intn(9) {
				heir.Step(some(r))
			}
			if e := heir.Load(reader(t, body)); e != api.OK || !bytes.Equal(bodyOf(t, heir), body) {
				t.Fatalf("Load: error %d, saved again % X, was % X", e, bodyOf(t, heir), body)
			}
			relay.Step(some(r)) // which is nothing to the heir
			relay = heir
			want, _ := straight.Run(m, 1)
			if got, _ := relay.Run(other, 1); !slices.Equal(got, want) || straight.Pegs() != relay.Pegs() || straight.Done() != relay.Done() {
				t.Fatalf("it did %X, comes to %+v, %d; want %X, %+v, %d", got, relay.Pegs(), relay.Done(), want, straight.Pegs(), straight.Done())
			}
		}
		if !bytes.Equal(bodyOf(t, straight), bodyOf(t, relay)) || !bytes.Equal(m, other) {
			t.Fatal("they are not one")
		}
	}
}

// P12.5, P12.1: Next changes nothing, whatever else is asked in between.
func TestAsked(t *testing.T) {
	r := rand.New(rand.NewSource(127))
	m := anyMemory(r)
	other := bytes.Clone(m)
	asked, unasked := player.New(at0200()), player.New(at0200())
	for range 5000 {
		before := bodyOf(t, asked)
		first := asked.Next()
		asked.Pegs()
		asked.Done()
		asked.Save(nil)
		if asked.Next() != first || !bytes.Equal(bodyOf(t, asked), before) {
			t.Fatalf("next is %X, was %X", asked.Next(), first)
		}
		did, _ := asked.Run(m, 1)
		if want, _ := unasked.Run(other, 1); did[0] != first || want[0] != first {
			t.Fatalf("%X, %X, want %X", did, want, first)
		}
	}
	if !bytes.Equal(bodyOf(t, asked), bodyOf(t, unasked)) {
		t.Error("asked or not is not one")
	}
}
