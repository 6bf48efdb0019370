package notes_test

import (
	"math/rand"
	"strings"
	"testing"

	"lanthorn/api"
	"lanthorn/notes"
)

// P10.5: each code has a name, a size from 1 to 3 and 2 to 12 cycles.
func TestBounds(t *testing.T) {
	for c := range notes.All() {
		if c.Name == "" || c.Size < 1 || c.Size > 3 || c.Cycles < 2 || c.Cycles > 12 {
			t.Errorf("%+v", c)
		}
		size := 1
		for i := range len(c.Form) {
			size += notes.Width(c.Form[i])
		}
		if c.Size != size {
			t.Errorf("%+v: its operands have %d bytes", c, size-1)
		}
	}
}

// P10.5: Of of Find of a code's name and form has these, and is the code itself but where the code says a bit, or a number of a table.
func TestFoundAgain(t *testing.T) {
	for c := range notes.All() {
		code, ok := notes.Find(c.Name, c.Form)
		if !ok {
			t.Errorf("%+v is not found", c)
		}
		d := notes.Of(code)
		if d.Name != c.Name || d.Form != c.Form || code > c.Code {
			t.Errorf("%+v is found as %+v", c, d)
		}
		if code != c.Code && !strings.ContainsAny(c.Form, "bt") {
			t.Errorf("%+v is found as %02X", c, code)
		}
	}
}

// P10.5: the Sizes that Text says one behind the other are how List goes on.
func TestListByTexts(t *testing.T) {
	r := rand.New(rand.NewSource(105))
	for range 2000 {
		b := make([]byte, r.Intn(60))
		r.Read(b)
		at := uint16(r.Intn(65536))
		l := notes.List(b, at)
		i := 0
		for len(b) > 0 {
			s, n, e := notes.Text(b, at)
			if e != api.OK {
				break
			}
			if i >= len(l) || l[i][4:] != " "+s {
				t.Fatalf("the line %d of %q is not %q", i, l, s)
			}
			i, b, at = i+1, b[n:], at+uint16(n)
		}
		if len(l) != i+len(b) {
			t.Fatalf("%d lines, %d instructions, %d bytes left", len(l), i, len(b))
		}
	}
}
