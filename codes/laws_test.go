package codes_test

import (
	"bytes"
	"math/rand"
	"testing"

	"lanthorn/api"
	"lanthorn/codes"
)

// P6.5: Bytes of Text is the bytes with which b begins, and Text of them is the text.
func TestThereAndBack(t *testing.T) {
	r := rand.New(rand.NewSource(65))
	for code := range 256 {
		for i := range 256 {
			b := []byte{uint8(code), uint8(i), uint8(r.Intn(256)), uint8(r.Intn(256))}
			pc := uint16(r.Intn(65536))
			p := uint8(r.Intn(256))
			s, n, ok := codes.Text(b, pc, p)
			if !ok {
				t.Fatalf("Text(% x, %04x, %02x): false", b, pc, p)
			}
			back, e := codes.Bytes(s, pc, p)
			if e != api.OK || !bytes.Equal(back, b[:n]) {
				t.Fatalf("% x, %04x, %02x: %q, %d, and back % x, %v", b, pc, p, s, n, back, e)
			}
			if again, m, ok := codes.Text(back, pc, p); again != s || m != n || !ok {
				t.Fatalf("%q, and back % x, and there %q, %d, %v", s, back, again, m, ok)
			}
		}
	}
}

// P6.5: each code's size is 1 to 4, and hangs on the flags M and X alone.
func TestSizes(t *testing.T) {
	for c := range codes.All() {
		for p := range 256 {
			n := codes.Size(c.Code, uint8(p))
			if n < 1 || n > 4 || n != codes.Size(c.Code, uint8(p)&(fM|fX)) {
				t.Errorf("Size(%02x, %02x): %d", c.Code, p, n)
			}
		}
	}
}

// P6.5: of each name no two codes have one mode.
func TestModesOfNames(t *testing.T) {
	type key struct {
		name string
		mode uint8
	}
	seen := map[key]uint8{}
	for c := range codes.All() {
		k := key{c.Name, c.Mode}
		if d, ok := seen[k]; ok {
			t.Errorf("%02x and %02x are both %s of the mode %d", d, c.Code, c.Name, c.Mode)
		}
		seen[k] = c.Code
	}
}
