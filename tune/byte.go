package tune

import "lanthorn/api"

// move lays a byte elsewhere; registers but S tell what they get.
func (u *runner) move() {
	v := u.o.read()
	u.d.write(v)
	switch u.d.letter {
	case 'A', 'X', 'Y':
		u.tell(v)
	}
}

// combine makes one byte of two.
func (u *runner) combine() {
	o := u.o.read()
	v := u.combined(u.d.read(), o)
	u.d.write(v)
	u.tell(v)
}

// combined is what the name makes of two bytes.
func (u *runner) combined(d, o uint8) uint8 {
	switch u.code.Name {
	case "OR":
		return d | o
	case "AND":
		return d & o
	case "EOR":
		return d ^ o
	case "SBC":
		return u.sum(d, ^o)
	}
	return u.sum(d, o) // ADC
}

// sum is two bytes and the carry together; C, H and V tell of it.
func (u *runner) sum(a, b uint8) uint8 {
	carry := u.Psw & api.PegC
	v := a + b + carry
	u.put(api.PegC, int(a)+int(b)+int(carry) >= 256)
	u.put(api.PegH, a&15+b&15+carry >= 16)
	u.put(api.PegV, a&0x80 == b&0x80 && a&0x80 != v&0x80)
	return v
}

// compare holds two bytes against each other.
func (u *runner) compare() {
	o := u.o.read()
	d := u.d.read()
	u.put(api.PegC, d >= o)
	u.tell(d - o)
}

// change makes a byte another one.
func (u *runner) change() {
	v := u.changed(u.d.read())
	u.d.write(v)
	u.tell(v)
}

// changed is what the name makes of a byte.
func (u *runner) changed(v uint8) uint8 {
	carry := u.Psw & api.PegC
	switch u.code.Name {
	case "INC":
		return v + 1
	case "DEC":
		return v - 1
	case "ASL":
		u.put(api.PegC, v&0x80 != 0)
		return v << 1
	case "ROL":
		u.put(api.PegC, v&0x80 != 0)
		return v<<1 | carry
	case "LSR":
		u.put(api.PegC, v&1 != 0)
		return v >> 1
	}
	u.put(api.PegC, v&1 != 0)
	return v>>1 | carry<<7 // ROR
}

// adjustSum makes A, a sum of two bytes with decimal digits, such a byte.
func (u *runner) adjustSum() {
	if u.flag(api.PegC) || u.A > 0x99 {
		u.A += 0x60
		u.put(api.PegC, true)
	}
	if u.flag(api.PegH) || u.A&15 > 9 {
		u.A += 6
	}
	u.tell(u.A)
}

// adjustDifference makes A, a difference of two bytes with decimal digits, such a byte.
func (u *runner) adjustDifference() {
	if !u.flag(api.PegC) || u.A > 0x99 {
		u.A -= 0x60
		u.put(api.PegC, false)
	}
	if !u.flag(api.PegH) || u.A&15 > 9 {
		u.A -= 6
	}
	u.tell(u.A)
}

// exchange lets the halves of A change places.
func (u *runner) exchange() {
	u.A = u.A<<4 | u.A>>4
	u.tell(u.A)
}
