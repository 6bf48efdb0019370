package brr_test

import (
	"bytes"
	"math"
	"math/rand"
	"slices"
	"sort"
	"testing"

	"lanthorn/api"
	"lanthorn/brr"
)

// part is a number's n-th part, rounded down.
func part(x, n int) int { return int(math.Floor(float64(x) / float64(n))) }

// naiveSample is the chapter once more: what a nibble, from 0 to 15, stands for.
func naiveSample(shift, filter, nibble, p, q int) int {
	if nibble > 7 {
		nibble -= 16
	}
	s := 0
	if shift <= 12 {
		s = int(math.Floor(math.Ldexp(float64(nibble), shift-1)))
	} else if nibble < 0 {
		s = -2048
	}
	switch filter {
	case 1:
		s += part(15*p, 16)
	case 2:
		s = s + part(61*p, 32) - part(15*q, 16)
	case 3:
		s = s + part(115*p, 64) - part(13*q, 16)
	}
	if s > 32767 {
		return 32767
	}
	if s < -32768 {
		return -32768
	}
	return s
}

// naiveDecode is a block's samples.
func naiveDecode(block []uint8, last, ahead int16) []int16 {
	var l []int16
	p, q := int(last), int(ahead)
	for _, v := range block[1:] {
		for _, nibble := range []int{int(v) / 16, int(v) % 16} {
			x := naiveSample(int(block[0])/16, int(block[0])/4%4, nibble, p, q)
			l = append(l, int16(x))
			p, q = x, p
		}
	}
	return l
}

// far is how far samples are from others.
func far(s, from []int16) float64 {
	sum := 0.0
	for i := range s {
		d := float64(s[i]) - float64(from[i])
		sum += d * d
	}
	return sum
}

// naiveBlock is the block by a shift and a filter; with it is whether another nibble was as near as one of its own, but had a lesser number unless it is signed.
func naiveBlock(s []int16, shift, filter int, last, ahead int16) ([]uint8, bool) {
	block := []uint8{uint8(16*shift + 4*filter)}
	var nibbles []int
	tied := false
	p, q := int(last), int(ahead)
	for _, want := range s {
		least, best := math.MaxInt, make([]int, 0, 16)
		for number := -8; number < 8; number++ {
			d := naiveSample(shift, filter, (number+16)%16, p, q) - int(want)
			if d*d < least {
				least, best = d*d, best[:0]
			}
			if d*d == least {
				best = append(best, number)
			}
		}
		tied = tied || best[0] < 0 && best[len(best)-1] >= 0
		nibbles = append(nibbles, (best[0]+16)%16)
		p, q = naiveSample(shift, filter, nibbles[len(nibbles)-1], p, q), p
	}
	for i := 0; i < 16; i += 2 {
		block = append(block, uint8(16*nibbles[i]+nibbles[i+1]))
	}
	return block, tied
}

// choice is the nearest block; whether something is lost by it; what was as near, and had to give way: nibbles, blocks, blocks with the same filter.
type choice struct {
	block         []uint8
	shift, filter int
	loss          bool

	tiedNibbles, tied, tiedShifts bool
}

// naiveEncode is the nearest block, by looking at all of them.
func naiveEncode(s []int16, last, ahead int16) choice {
	type made struct {
		choice
		far float64
	}
	var all []made
	for shift := range 13 {
		for filter := range 4 {
			block, tied := naiveBlock(s, shift, filter, last, ahead)
			c := choice{block: block, tiedNibbles: tied, shift: shift, filter: filter}
			all = append(all, made{c, far(naiveDecode(block, last, ahead), s)})
		}
	}
	sort.Slice(all, func(i, j int) bool {
		a, b := all[i], all[j]
		if a.far != b.far {
			return a.far < b.far
		}
		if a.filter != b.filter {
			return a.filter < b.filter
		}
		return a.shift < b.shift
	})
	best := all[0].choice
	best.loss = all[0].far > 0
	best.tied = all[1].far == all[0].far
	best.tiedShifts = best.tied && all[1].filter == best.filter
	return best
}

// count is one more, if something holds.
func count(n *int, holds bool) {
	if holds {
		*n++
	}
}

// edge is a sample, often one at an end.
func edge(r *rand.Rand) int16 {
	if r.Intn(3) == 0 {
		return []int16{0, 1, -1, 2, -2, 15, -15, 16, -16, 63, -64, 32767, 32766, -32768, -32767}[r.Intn(15)]
	}
	return int16(r.Intn(65536))
}

// someBytes are bytes of any kind.
func someBytes(r *rand.Rand, n int) []uint8 {
	b := make([]uint8, n)
	r.Read(b)
	return b
}

// cut is the nearest sample to a number.
func cut(x float64) int16 { return int16(max(-32768, min(32767, math.Round(x)))) }

// someSamples are samples of one of several kinds: any, soft, at the ends, a wave, a block's, near a block's, still.
func someSamples(r *rand.Rand, n int) []int16 {
	s := make([]int16, n)
	size := math.Pow(2, 16*r.Float64())
	kind, at, step := r.Intn(7), r.Float64()*7, r.Float64()*r.Float64()*3
	last, ahead := edge(r), edge(r)
	var block []int16
	for i := range s {
		if i%16 == 0 {
			head := uint8(r.Intn(13)<<4 | r.Intn(4)<<2)
			block = naiveDecode(slices.Concat([]uint8{head}, someBytes(r, 8)), last, ahead)
			last, ahead = block[15], block[14]
		}
		switch kind {
		case 0:
			s[i] = edge(r)
		case 1:
			s[i] = cut(size * (r.Float64() - 0.5))
		case 2:
			s[i] = []int16{-32768, 32767}[r.Intn(2)]
		case 3:
			s[i] = cut(size * math.Sin(at+step*float64(i)))
		case 4:
			s[i] = block[i%16]
		case 5:
			s[i] = cut(float64(block[i%16]) + size*0.001*(r.Float64()-0.5))
		case 6:
			s[i] = cut(size)
		}
	}
	return s
}

// P14.1: of each head, behind any samples, of any bytes.
func TestDecodeAny(t *testing.T) {
	r := rand.New(rand.NewSource(141))
	for head := range 256 {
		for range 200 {
			block := slices.Concat([]uint8{uint8(head)}, someBytes(r, 8))
			last, ahead := edge(r), edge(r)
			got, e := brr.Decode(block, last, ahead)
			if want := naiveDecode(block, last, ahead); e != api.OK || !slices.Equal(got, want) {
				t.Fatalf("Decode of % X, %d, %d: %d, error %d, want\n%d", block, last, ahead, got, e, want)
			}
		}
	}
}

// P14.1: each nibble by each shift and filter, as the first one behind samples at the edges.
func TestDecodeNibbles(t *testing.T) {
	edges := []int16{-32768, -32767, -65, -64, -63, -33, -32, -31, -17, -16, -15, -2, -1, 0, 1, 2, 15, 16, 17, 31, 32, 33, 63, 64, 65, 32766, 32767}
	for head := range 64 {
		for nibble := range 16 {
			for _, p := range edges {
				for _, q := range edges {
					block := []uint8{uint8(head << 2), uint8(nibble << 4), 0, 0, 0, 0, 0, 0, 0}
					got, _ := brr.Decode(block, p, q)
					if want := naiveSample(head>>2, head&3, nibble, int(p), int(q)); len(got) != 16 || int(got[0]) != want {
						t.Fatalf("Decode of % X, %d, %d: %d, want %d first", block, p, q, got, want)
					}
				}
			}
		}
	}
}

// P14.3: of samples of many kinds, behind any two.
func TestEncodeAny(t *testing.T) {
	r := rand.New(rand.NewSource(143))
	var shifts [13]int
	var filters [4]int
	tiedNibbles, tiedLoss, tiedShifts := 0, 0, 0
	for range 6000 {
		s, last, ahead := someSamples(r, 16), edge(r), edge(r)
		if r.Intn(2) == 0 {
			l := someSamples(r, 18)
			s, last, ahead = l[2:], l[1], l[0]
		}
		got, e := brr.Encode(s, last, ahead)
		want := naiveEncode(s, last, ahead)
		if e != api.OK || !bytes.Equal(got, want.block) {
			t.Fatalf("Encode of %d, %d, %d: % X, error %d, want % X", s, last, ahead, got, e, want.block)
		}
		shifts[want.shift]++
		filters[want.filter]++
		count(&tiedNibbles, want.tiedNibbles)
		count(&tiedLoss, want.tied && want.loss)
		count(&tiedShifts, want.tiedShifts && want.filter > 0)
	}
	if slices.Min(shifts[:]) < 50 || slices.Min(filters[:]) < 500 || tiedNibbles < 100 || tiedLoss < 20 || tiedShifts < 20 {
		t.Errorf("shifts %d, filters %d; tied: nibbles of %d, blocks with a loss %d, shifts of a filter above 0 %d", shifts, filters, tiedNibbles, tiedLoss, tiedShifts)
	}
}

// P14.4: of any number of samples.
func TestPackAny(t *testing.T) {
	r := rand.New(rand.NewSource(144))
	for n := range 100 {
		s := someSamples(r, n)
		var want []uint8
		var last, ahead int16
		for at := 0; at < max(n, 1); at += 16 {
			piece := make([]int16, 16)
			copy(piece, s[at:])
			block := naiveEncode(piece, last, ahead).block
			want = append(want, block...)
			l := naiveDecode(block, last, ahead)
			last, ahead = l[15], l[14]
		}
		want[len(want)-9]++
		if got := brr.Pack(s); !bytes.Equal(got, want) {
			t.Fatalf("Pack of %d: % X, want\n% X", s, got, want)
		}
	}
}

// naiveAll is the samples up to the end.
func naiveAll(b []uint8) (s []int16, n int, loop bool, e api.Errno) {
	var last, ahead int16
	for len(b) >= n+9 {
		l := naiveDecode(b[n:n+9], last, ahead)
		s, last, ahead = append(s, l...), l[15], l[14]
		n += 9
		if b[n-9]%2 == 1 {
			return s, n, b[n-9]/2%2 == 1, api.OK
		}
	}
	return nil, 0, false, api.ErrBlock
}

// P14.2: of any bytes, as many as there may be.
func TestAllAny(t *testing.T) {
	r := rand.New(rand.NewSource(142))
	ends := 0
	for range 30000 {
		b := someBytes(r, r.Intn(80))
		for at := 0; at < len(b) && r.Intn(8) > 0; at += 9 {
			b[at] &^= 1
		}
		s, n, loop, e := brr.All(b)
		wantS, wantN, wantLoop, wantE := naiveAll(b)
		if !slices.Equal(s, wantS) || n != wantN || loop != wantLoop || e != wantE {
			t.Fatalf("All of % X: %d, %d, %v, error %d, want\n%d, %d, %v, %d", b, s, n, loop, e, wantS, wantN, wantLoop, wantE)
		}
		if n > 9 {
			ends++
		}
	}
	if ends < 1000 {
		t.Error(ends, "had an end behind the first block")
	}
}
