package brr_test

import (
	"bytes"
	"encoding/hex"
	"slices"
	"strings"
	"testing"

	"lanthorn/api"
	"lanthorn/brr"
)

// raw are bytes of a text of digits.
func raw(t *testing.T, text string) []uint8 {
	t.Helper()
	b, e := hex.DecodeString(strings.ReplaceAll(text, " ", ""))
	if e != nil {
		t.Fatal(e)
	}
	return b
}

// times is a row, so many times.
func times[T any](n int, row ...T) []T { return slices.Repeat(row, n) }

func wantDecode(t *testing.T, block string, last, ahead int16, want ...int16) {
	t.Helper()
	s, e := brr.Decode(raw(t, block), last, ahead)
	if e != api.OK || len(s) != 16 || !slices.Equal(s[:len(want)], want) {
		t.Errorf("Decode of %s, %d, %d: %d, error %d, want %d", block, last, ahead, s, e, want)
	}
}

func wantEncode(t *testing.T, s []int16, last, ahead int16, want string) {
	t.Helper()
	b, e := brr.Encode(s, last, ahead)
	if e != api.OK || !bytes.Equal(b, raw(t, want)) {
		t.Errorf("Encode of %d, %d, %d: % X, error %d, want %s", s, last, ahead, b, e, want)
	}
}

// The chapter's examples.
func TestExamples(t *testing.T) {
	if h := brr.Read(0xb5); h != (api.Head{Shift: 11, Filter: 1, End: true}) {
		t.Errorf("Read of B5: %+v", h)
	}
	wantDecode(t, "40 12F0 000000000000", 0, 0, 8, 16, -8, 0, 0, 0, 0, 0, 0, 0, 0, 0, 0, 0, 0, 0)
	wantDecode(t, "44 12F0 000000000000", 0, 0, 8, 23, 13, 12, 11, 10, 9, 8, 7, 6, 5, 4, 3, 2, 1, 0)
	wantDecode(t, "D0 7070707070707070", 0, 0, times[int16](16, 0)...)
	wantDecode(t, "D0 8F8F8F8F8F8F8F8F", 0, 0, times[int16](16, -2048)...)
	if s, n, loop, e := brr.All(make([]uint8, 8)); len(s) != 0 || n != 0 || loop || e != api.ErrBlock {
		t.Errorf("All of 8 bytes: %d, %d, %v, error %d", s, n, loop, e)
	}
	if b := brr.Pack(nil); !bytes.Equal(b, raw(t, "01 0000000000000000")) {
		t.Errorf("Pack of none: % X", b)
	}
	wantEncode(t, make([]int16, 16), 0, 0, "00 0000000000000000")
}

// The chapter's numbers.
func TestNumbers(t *testing.T) {
	if api.ErrBlock != 140 || api.BlockSize != 9 || api.BlockLen != 16 {
		t.Error(api.ErrBlock, api.BlockSize, api.BlockLen)
	}
}

// P14.1: each byte as a head.
func TestRead(t *testing.T) {
	for b := range 256 {
		want := api.Head{Shift: uint8(b / 16), Filter: uint8(b / 4 % 4), Loop: b/2%2 == 1, End: b%2 == 1}
		if got := brr.Read(uint8(b)); got != want {
			t.Errorf("Read of %02X: %+v, want %+v", b, got, want)
		}
	}
}

// P14.1: what is rounded is rounded down, below 0 too.
func TestRoundedDown(t *testing.T) {
	wantDecode(t, "00 0123456789ABCDEF", 9, 9, 0, 0, 1, 1, 2, 2, 3, 3, -4, -4, -3, -3, -2, -2, -1, -1)
	wantDecode(t, "10 0123456789ABCDEF", 9, 9, 0, 1, 2, 3, 4, 5, 6, 7, -8, -7, -6, -5, -4, -3, -2, -1)
	wantDecode(t, "04 0000000000000000", -1, 0, -1, -1)     // -15/16
	wantDecode(t, "04 0000000000000000", -17, 0, -16, -15)  // -15 15/16; -15
	wantDecode(t, "08 0000000000000000", -1, 0, -2)         // -1 29/32
	wantDecode(t, "08 0000000000000000", 0, 1, 0, 0)        // less 15/16
	wantDecode(t, "08 0000000000000000", 0, -1, 1, 1)       // less -15/16; 1 29/32 less 0
	wantDecode(t, "0C 0000000000000000", -1, 0, -2)         // -1 51/64
	wantDecode(t, "0C 0000000000000000", 0, 1, 0)           // less 13/16
	wantDecode(t, "0C 0000000000000000", 0, -1, 1, 1, 1, 1) // less -13/16; 1 51/64 less 0; 1 51/64 less 13/16
}

// P14.1: p is the last sample, q the one ahead of it, and both move on.
func TestSamplesAhead(t *testing.T) {
	wantDecode(t, "04 0000000000000000", 1600, -3200, 1500, 1406)
	wantDecode(t, "08 0000000000000000", 3200, 0, 6100, 8628)
	wantDecode(t, "08 0000000000000000", 0, 3200, -3000, -5719) // -5718 3/4
	wantDecode(t, "0C 0000000000000000", 6400, 0, 11500, 15464) // 20664 1/16 less 5200
	wantDecode(t, "0C 0000000000000000", 0, 6400, -5200, -9344) // -9343 3/4
}

// P14.1: the greatest shift that shifts, and those beyond it, by each filter.
func TestShifts(t *testing.T) {
	wantDecode(t, "C0 1F78000000000000", 0, 0, 2048, -2048, 14336, -16384, 0)
	wantDecode(t, "B0 1F78000000000000", 0, 0, 1024, -1024, 7168, -8192, 0)
	for _, shift := range []string{"D", "E", "F"} {
		wantDecode(t, shift+"0 1F78000000000000", 5000, 5000, 0, -2048, 0, -2048, 0)
		wantDecode(t, shift+"4 1F78000000000000", 1600, 0, 1500, -642, -602, -2613)
		wantDecode(t, shift+"8 8000000000000000", 3200, 1600, 2552)
		wantDecode(t, shift+"C 8000000000000000", 6400, 1600, 8152)
	}
}

// P14.1: samples are clamped at both ends; what is foreseen behind them is foreseen of the clamped ones.
func TestClamped(t *testing.T) {
	wantDecode(t, "C4 7000000000000000", 32767, 0, 32767, 30719)
	wantDecode(t, "C4 8000000000000000", -32768, 0, -32768, -30720)
	wantDecode(t, "08 0000000000000000", 32767, 0, 32767, 31743) // 62462; 62462 less 30719
	wantDecode(t, "08 0000000000000000", -32768, 0, -32768, -31744)
	wantDecode(t, "0C 0000000000000000", 32767, -32768, 32767, 32255) // 58878 less -26624; 58878 less 26623
	wantDecode(t, "0C 0000000000000000", -32768, 32767, -32768, -32256)
	wantDecode(t, "C8 7777777777777777", 32767, -32768, times[int16](16, 32767)...)
	wantDecode(t, "C8 8888888888888888", -32768, 32767, times[int16](16, -32768)...)
}

// P14.1, R2: blocks of another size.
func TestDecodeSizes(t *testing.T) {
	for n := range 40 {
		s, e := brr.Decode(times[uint8](n, 0x11), 1, 2)
		switch {
		case n == 9 && (e != api.OK || len(s) != 16):
			t.Errorf("Decode of 9 bytes: %d, error %d", s, e)
		case n != 9 && (e != api.ErrArg || len(s) != 0):
			t.Errorf("Decode of %d bytes: %d, error %d", n, s, e)
		}
	}
	if s, e := brr.Decode(nil, 1, 2); e != api.ErrArg || s != nil {
		t.Errorf("Decode of nothing: %d, error %d", s, e)
	}
}

// P14.2: blocks one behind the other, up to the first end; what stands behind it is not looked at.
func TestAll(t *testing.T) {
	loud, still := "C0 7777777777777777", "0000000000000000"
	for _, x := range []struct {
		b    string
		n    int
		loop bool
		want []int16 // of the last block
	}{
		{"01" + still, 9, false, []int16{0, 0}},
		{"03" + still, 9, true, []int16{0, 0}},
		{"0F" + still, 9, true, []int16{0, 0}},
		{"01" + still + "03" + still, 9, false, []int16{0, 0}},
		{"03" + still + "01" + still, 9, true, []int16{0, 0}},
		{"02" + still + "01" + still, 18, false, []int16{0, 0}},
		{loud + "05" + still, 18, false, []int16{13440, 12600}},
		{loud + "07" + still + "FFFF", 18, true, []int16{13440, 12600}},
		{"C0 777777777777770F 0B" + still, 18, true, []int16{-3904, -5522}},               // behind 0 and -2048
		{"00" + still + "40 7777777777777778 0D" + still, 27, false, []int16{-160, -236}}, // behind 56 and -64; behind -64 and -160
	} {
		s, n, loop, e := brr.All(raw(t, strings.ReplaceAll(x.b, " ", "")))
		if e != api.OK || n != x.n || loop != x.loop || len(s) != n/9*16 || !slices.Equal(s[len(s)-16:][:2], x.want) {
			t.Errorf("All of %s: %d, %d, %v, error %d, want %+v", x.b, s, n, loop, e, x)
		}
	}
}

// P14.2, R2: no whole block that is an end.
func TestAllWithoutEnd(t *testing.T) {
	for n := range 9 {
		wantNoEnd(t, times[uint8](n, 0xff))
		wantNoEnd(t, slices.Concat(times[uint8](9, 0xfe), times[uint8](n, 0xff)))
	}
	for n := range 100 {
		b := times[uint8](n, 0xff)
		for at := 0; at < n; at += 9 {
			b[at] = 0xfe
		}
		wantNoEnd(t, b)
	}
	wantNoEnd(t, nil)
}

func wantNoEnd(t *testing.T, b []uint8) {
	t.Helper()
	if s, n, loop, e := brr.All(b); s != nil || n != 0 || loop || e != api.ErrBlock {
		t.Errorf("All of % X: %d, %d, %v, error %d", b, s, n, loop, e)
	}
}

// P14.3: of several nearest nibbles the least number; of several nearest blocks the least filter, then the least shift.
func TestEncodeTies(t *testing.T) {
	for _, x := range []struct {
		v           int16
		last, ahead int16
		want        string
	}{
		{0, 999, -999, "00 0000000000000000"}, // 1 stands for 0, too
		{1, 0, 0, "00 2222222222222222"},      // as 3
		{-1, 0, 0, "00 EEEEEEEEEEEEEEEE"},     // as F
		{3, 0, 0, "00 6666666666666666"},
		{4, 0, 0, "10 4444444444444444"}, // by the shift 2, too
		{-4, 0, 0, "00 8888888888888888"},
		{8, 0, 0, "20 4444444444444444"},
		{-8, 0, 0, "10 8888888888888888"},
		{14336, 0, 0, "C0 7777777777777777"},
		{-16384, 0, 0, "C0 8888888888888888"},
		{32767, 32767, 32767, "A4 4444444444444444"}, // by the filter 2 and the shift 9, too; 4 to 7 are clamped
		{-32768, -32768, -32768, "94 8888888888888888"},
	} {
		wantEncode(t, times(16, x.v), x.last, x.ahead, x.want)
	}
	// By one too much at the end, at the least: by the filter 1 from the shift 10 on, by 2 from 9 on, by 3 from 8 on.
	wantEncode(t, append(times[int16](15, 32767), 32766), 32767, 32767, "A4 4444444444444444")
	// Nothing but the filter 0 and the shift 12 goes so far up and down; what lies in the middle is taken for the lower one.
	swing := times[int16](8, 14336, -16384)
	wantEncode(t, swing, 0, 0, "C0 7878787878787878")
	swing[2], swing[5], swing[10] = -1024, 1024, -3072
	wantEncode(t, swing, 0, 0, "C0 78F8707878E87878")
}

// P14.3, R2: other numbers of samples.
func TestEncodeSizes(t *testing.T) {
	for n := range 40 {
		b, e := brr.Encode(make([]int16, n), 1, 2)
		switch {
		case n == 16 && (e != api.OK || len(b) != 9):
			t.Errorf("Encode of 16 samples: % X, error %d", b, e)
		case n != 16 && (e != api.ErrArg || b != nil):
			t.Errorf("Encode of %d samples: % X, error %d", n, b, e)
		}
	}
	if b, e := brr.Encode(nil, 1, 2); e != api.ErrArg || b != nil {
		t.Errorf("Encode of nothing: % X, error %d", b, e)
	}
}

// P14.4: noughts behind the samples; each block behind what those ahead of it stand for; one end.
func TestPack(t *testing.T) {
	for _, x := range []struct {
		s    []int16
		want string
	}{
		{[]int16{}, "01 0000000000000000"},
		{[]int16{8}, "21 4000000000000000"},
		{times[int16](15, 8), "21 4444444444444440"},
		{times[int16](16, 8), "21 4444444444444444"},
		{times[int16](17, 8), "20 4444444444444444 21 4000000000000000"},
		{times[int16](32, -1), "00 EEEEEEEEEEEEEEEE 01 EEEEEEEEEEEEEEEE"},
		{make([]int16, 33), "00 0000000000000000 00 0000000000000000 01 0000000000000000"},
	} {
		if got := brr.Pack(x.s); !bytes.Equal(got, raw(t, x.want)) {
			t.Errorf("Pack of %d: % X, want %s", x.s, got, x.want)
		}
	}
	// The first block stands for 14336 at its end, as near to 15000 as the filter 0 comes; behind that the filter 1 foresees.
	loud := brr.Pack(times[int16](48, 15000))
	s, _, _, _ := brr.All(loud)
	for at := 16; at < 48; at += 16 {
		block, _ := brr.Encode(times[int16](16, 15000), s[at-1], s[at-2])
		if at == 32 {
			block[0]++
		}
		if got := loud[at/16*9:][:9]; !bytes.Equal(got, block) {
			t.Errorf("behind %d: % X, want % X", s[at-2:at], got, block)
		}
	}
}
