package exec_test

import (
	"slices"
	"testing"

	"lanthorn/api"
	"lanthorn/exec"
)

// The flags, short.
const (
	fC = api.FlagC
	fZ = api.FlagZ
	fI = api.FlagI
	fD = api.FlagD
	fX = api.FlagX
	fM = api.FlagM
	fV = api.FlagV
	fN = api.FlagN
)

// idle, read and write are accesses.
func idle() api.Access                      { return api.Access{Kind: api.Idle} }
func read(addr uint32) api.Access           { return api.Access{Kind: api.Read, Addr: addr} }
func write(addr uint32, v uint8) api.Access { return api.Access{Kind: api.Write, Addr: addr, Value: v} }

// fetches are the reads of the example's first bytes, and what comes behind them.
func fetches(n int, then ...api.Access) []api.Access {
	l := []api.Access{read(0x808000), read(0x808001), read(0x808002), read(0x808003)}
	return append(l[:n:n], then...)
}

// change changes registers.
type change func(r *api.Regs)

// like is the registers of the chapter's examples, changed.
func like(changes ...change) api.Regs {
	r := api.Regs{K: 0x80, PC: 0x8000, S: 0x1ff}
	for _, c := range changes {
		c(&r)
	}
	return r
}

// elder makes the processor emulate its elder.
func elder(r *api.Regs) { r.E, r.P = true, r.P|fM|fX }

// flags, pc and so on lay a register each.
func flags(p uint8) change     { return func(r *api.Regs) { r.P = p } }
func pc(n uint16) change       { return func(r *api.Regs) { r.PC = n } }
func a(n uint16) change        { return func(r *api.Regs) { r.A = n } }
func x(n uint16) change        { return func(r *api.Regs) { r.X = n } }
func y(n uint16) change        { return func(r *api.Regs) { r.Y = n } }
func s(n uint16) change        { return func(r *api.Regs) { r.S = n } }
func d(n uint16) change        { return func(r *api.Regs) { r.D = n } }
func banks(k, b uint8) change  { return func(r *api.Regs) { r.K, r.B = k, b } }
func all(l ...change) []change { return l }

// wantAfter asks of a whole turn its accesses, the registers behind it, told as changes of those ahead, and what comes behind.
func wantAfter(t *testing.T, got api.Turn, r api.Regs, list []api.Access, behind []change, after uint8) {
	t.Helper()
	for _, c := range behind {
		c(&r)
	}
	if want := (api.Turn{List: list, Done: true, Regs: r, After: after}); !same(got, want) {
		t.Errorf("%+v, want\n%+v", got, want)
	}
}

func wantTurn(t *testing.T, r api.Regs, seen []uint8, list []api.Access, behind ...change) {
	t.Helper()
	wantAfter(t, exec.Course(r, seen), r, list, behind, api.AfterRun)
}

func wantStop(t *testing.T, got api.Turn, list ...api.Access) {
	t.Helper()
	if want := (api.Turn{List: list}); !same(got, want) {
		t.Errorf("%+v, want %x, not done", got, list)
	}
}

// P8.1: the chapter's examples, in their order.
func TestExamples(t *testing.T) {
	wantTurn(t, like(), []uint8{0xa9, 0x34, 0x12}, fetches(3), a(0x1234), pc(0x8003))
	wantStop(t, exec.Course(like(), []uint8{0xa9}), fetches(2)...)
	wantTurn(t, like(a(0x1234)), []uint8{0x48}, fetches(1, idle(), write(0x1ff, 0x12), write(0x1fe, 0x34)), s(0x1fd), pc(0x8001))
	wantTurn(t, like(a(0xffff)), []uint8{0x1a}, fetches(1, idle()), a(0), flags(fZ), pc(0x8001))
	wantTurn(t, like(), []uint8{0xe6, 0x10, 0xff, 0}, fetches(2, read(0x10), read(0x11), idle(), write(0x11, 1), write(0x10, 0)), pc(0x8002))
	wantTurn(t, like(), []uint8{0xd0, 0xfe}, fetches(2, idle()))
	wantTurn(t, like(x(0x10), y(0x20), a(1)), []uint8{0x54, 1, 2, 0x77}, fetches(3, read(0x020010), write(0x010020, 0x77), idle(), idle()), a(0), x(0x11), y(0x21), banks(0x80, 1))
	wantTurn(t, like(flags(fC)), []uint8{0xfb}, fetches(1, idle()), elder, flags(fM|fX), pc(0x8001))
	irq := []api.Access{idle(), idle(), write(0x1ff, 0x80), write(0x1fe, 0x80), write(0x1fd, 0), write(0x1fc, 0x21), read(0xffee), read(0xffef)}
	r := like(flags(0x21))
	wantAfter(t, exec.Enter(api.WhyIRQ, r, []uint8{0, 0x90}), r, irq, all(pc(0x9000), banks(0, 0), flags(0x25), s(0x1fb)), api.AfterRun)
	wantAfter(t, exec.Course(like(), []uint8{0xcb}), like(), fetches(1, idle(), idle()), all(pc(0x8001)), api.AfterWait)
	wantAfter(t, exec.Course(like(), []uint8{0xdb}), like(), fetches(1, idle(), idle()), all(pc(0x8001)), api.AfterStop)
}

// P8.1: nothing was seen, not even the code.
func TestNothingSeen(t *testing.T) {
	wantStop(t, exec.Course(like(), nil), read(0x808000))
	wantStop(t, exec.Course(like(pc(0xffff)), []uint8{0xa9}), read(0x80ffff), read(0x800000))
	wantStop(t, exec.Course(like(), []uint8{0x20, 1}), fetches(3)...)
}

// P8.1: a program wraps round within its bank.
func TestFetchWraps(t *testing.T) {
	wantTurn(t, like(pc(0xfffe)), []uint8{0xa9, 1, 2}, []api.Access{read(0x80fffe), read(0x80ffff), read(0x800000)}, a(0x201), pc(1))
	wantTurn(t, like(pc(0xffff)), []uint8{0xea}, []api.Access{read(0x80ffff), idle()}, pc(0))
}

// P8.1: the registers are settled first: such as can't be count as those that can.
func TestSettled(t *testing.T) {
	r := api.Regs{PC: 0x8000, S: 0x3456, X: 0x1234, Y: 0x5678, E: true}
	got := exec.Course(r, []uint8{0xda})
	want := api.Regs{PC: 0x8001, S: 0x155, X: 0x34, Y: 0x78, E: true, P: fM | fX}
	wantAfter(t, got, want, []api.Access{read(0x8000), idle(), write(0x156, 0x34)}, nil, api.AfterRun)
}

// P8.1, group 1: by width and register; the lower byte of A alone, if narrow; BIT of a number that is no memory's sets Z alone.
func TestTake(t *testing.T) {
	wantTurn(t, like(a(0x1234), flags(fM)), []uint8{0xa9, 0x80}, fetches(2), a(0x1280), flags(fM|fN), pc(0x8002))
	wantTurn(t, like(x(0x1234)), []uint8{0xa2, 0, 0}, fetches(3), x(0), flags(fZ), pc(0x8003))
	wantTurn(t, like(y(0x34), flags(fX)), []uint8{0xa0, 0x80}, fetches(2), y(0x80), flags(fX|fN), pc(0x8002))
	wantTurn(t, like(a(0x1201), flags(fM)), []uint8{0x09, 0x80}, fetches(2), a(0x1281), flags(fM|fN), pc(0x8002))
	wantTurn(t, like(a(0xff0f)), []uint8{0x29, 0xff, 0x0f}, fetches(3), a(0x0f0f), pc(0x8003))
	wantTurn(t, like(a(0xff0f)), []uint8{0x49, 0x0f, 0xff}, fetches(3), a(0), flags(fZ), pc(0x8003))
	wantTurn(t, like(a(0x58), flags(fM|fD|fC)), []uint8{0x69, 0x46}, fetches(2), a(5), flags(fM|fD|fC|fV), pc(0x8002))
	wantTurn(t, like(a(0x1200), flags(fM|fC)), []uint8{0xe9, 1}, fetches(2), a(0x12ff), flags(fM|fN), pc(0x8002))
	wantTurn(t, like(a(5)), []uint8{0xc9, 6, 0}, fetches(3), flags(fN), pc(0x8003))
	wantTurn(t, like(x(0x100)), []uint8{0xe0, 0, 1}, fetches(3), flags(fZ|fC), pc(0x8003))
	wantTurn(t, like(y(0x7f), flags(fX)), []uint8{0xc0, 1}, fetches(2), flags(fX|fC), pc(0x8002))
	wantTurn(t, like(a(1)), []uint8{0x89, 0, 0xc0}, fetches(3), flags(fZ), pc(0x8003))
	wantTurn(t, like(a(1), flags(fM)), []uint8{0x24, 5, 0xc0}, fetches(2, read(5)), flags(fM|fN|fV|fZ), pc(0x8002))
	wantTurn(t, like(banks(0x80, 0x12)), []uint8{0xad, 0xff, 0xff, 0x34, 0x12}, fetches(3, read(0x12ffff), read(0x130000)), a(0x1234), pc(0x8003))
	wantTurn(t, like(d(0xff01)), []uint8{0xa6, 0xfe, 0x34, 0x12}, fetches(2, idle(), read(0xffff), read(0)), x(0x1234), pc(0x8002))
	wantStop(t, exec.Course(like(), []uint8{0xa5, 0x10, 0x34}), fetches(2, read(0x10), read(0x11))...)
}

// P8.1, group 2: the lower byte is written first; flags stay.
func TestStore(t *testing.T) {
	wantTurn(t, like(a(0x1234), flags(fN|fZ)), []uint8{0x8d, 0x10, 0x20}, fetches(3, write(0x2010, 0x34), write(0x2011, 0x12)), pc(0x8003))
	wantTurn(t, like(a(0x1234), flags(fM)), []uint8{0x85, 0x10}, fetches(2, write(0x10, 0x34)), pc(0x8002))
	wantTurn(t, like(x(0x1234), flags(fM)), []uint8{0x86, 0x10}, fetches(2, write(0x10, 0x34), write(0x11, 0x12)), pc(0x8002))
	wantTurn(t, like(y(0x34), flags(fX)), []uint8{0x84, 0x10}, fetches(2, write(0x10, 0x34)), pc(0x8002))
	wantTurn(t, like(a(0x1234), x(1), flags(fX)), []uint8{0x9e, 0x10, 0x20}, fetches(3, idle(), write(0x2011, 0), write(0x2012, 0)), pc(0x8003))
	wantTurn(t, like(a(0x1234), flags(fM)), []uint8{0x64, 0x10}, fetches(2, write(0x10, 0)), pc(0x8002))
}

// P8.1, group 3: in memory the upper byte is written first; TSB and TRB hold A against it.
func TestChange(t *testing.T) {
	wantTurn(t, like(flags(fM)), []uint8{0x06, 5, 0xc0}, fetches(2, read(5), idle(), write(5, 0x80)), flags(fM|fC|fN), pc(0x8002))
	wantTurn(t, like(flags(fC)), []uint8{0x2e, 5, 0, 0, 0x80}, fetches(3, read(5), read(6), idle(), write(6, 0), write(5, 1)), flags(fC), pc(0x8003))
	wantTurn(t, like(a(0x0f), flags(fM|fN)), []uint8{0x14, 5, 0xff}, fetches(2, read(5), idle(), write(5, 0xf0)), pc(0x8002))
	wantTurn(t, like(a(0x0ff0), flags(0)), []uint8{0x0c, 5, 0, 0x0f, 0}, fetches(3, read(5), read(6), idle(), write(6, 0x0f), write(5, 0xff)), flags(fZ), pc(0x8003))
	wantTurn(t, like(a(0x1201), flags(fM)), []uint8{0x4a}, fetches(1, idle()), a(0x1200), flags(fM|fC|fZ), pc(0x8001))
	wantTurn(t, like(a(0x12ff), flags(fM)), []uint8{0x1a}, fetches(1, idle()), a(0x1200), flags(fM|fZ), pc(0x8001))
	wantTurn(t, like(flags(fC)), []uint8{0x6a}, fetches(1, idle()), a(0x8000), flags(fN), pc(0x8001))
	wantTurn(t, like(x(0xff), flags(fM|fX)), []uint8{0xde, 0xff, 0xff, 0}, fetches(3, idle(), read(0x0100fe), idle(), write(0x0100fe, 0xff)), flags(fM|fX|fN), pc(0x8003))
}

// P8.1, group 4: index registers by the flag X, whatever M is; flags one by one.
func TestSteps(t *testing.T) {
	wantTurn(t, like(x(0xff), flags(fX)), []uint8{0xe8}, fetches(1, idle()), x(0), flags(fX|fZ), pc(0x8001))
	wantTurn(t, like(x(0xff), flags(fM)), []uint8{0xe8}, fetches(1, idle()), x(0x100), pc(0x8001))
	wantTurn(t, like(y(0), flags(fM|fX)), []uint8{0x88}, fetches(1, idle()), y(0xff), flags(fM|fX|fN), pc(0x8001))
	wantTurn(t, like(y(0x7fff)), []uint8{0xc8}, fetches(1, idle()), y(0x8000), flags(fN), pc(0x8001))
	wantTurn(t, like(x(0)), []uint8{0xca}, fetches(1, idle()), x(0xffff), flags(fN), pc(0x8001))
	for code, flag := range map[uint8]uint8{0x18: fC, 0x58: fI, 0xd8: fD, 0xb8: fV} {
		wantTurn(t, like(flags(0xff)), []uint8{code}, fetches(1, idle()), flags(0xff-flag), pc(0x8001))
	}
	for code, flag := range map[uint8]uint8{0x38: fC, 0x78: fI, 0xf8: fD} {
		wantTurn(t, like(), []uint8{code}, fetches(1, idle()), flags(flag), pc(0x8001))
	}
	wantTurn(t, like(flags(0xff)), []uint8{0xea}, fetches(1, idle()), pc(0x8001))
}

// P8.1, group 5: how wide what is transferred is hangs on where it goes.
func TestTransfer(t *testing.T) {
	wantTurn(t, like(a(0x8034), flags(fM)), []uint8{0xaa}, fetches(1, idle()), x(0x8034), flags(fM|fN), pc(0x8001))
	wantTurn(t, like(a(0x8034), flags(fX)), []uint8{0xa8}, fetches(1, idle()), y(0x34), pc(0x8001))
	wantTurn(t, like(s(0x1280), flags(fX)), []uint8{0xba}, fetches(1, idle()), x(0x80), flags(fX|fN), pc(0x8001))
	wantTurn(t, like(x(0x1234)), []uint8{0x9b}, fetches(1, idle()), y(0x1234), pc(0x8001))
	wantTurn(t, like(y(0), x(5)), []uint8{0xbb}, fetches(1, idle()), x(0), flags(fZ), pc(0x8001))
	wantTurn(t, like(a(0x1200), x(0x3480), flags(fM)), []uint8{0x8a}, fetches(1, idle()), a(0x1280), flags(fM|fN), pc(0x8001))
	wantTurn(t, like(a(0x1200), y(0x80), flags(fX)), []uint8{0x98}, fetches(1, idle()), a(0x80), pc(0x8001), flags(fX))
	wantTurn(t, like(x(0), flags(fN)), []uint8{0x9a}, fetches(1, idle()), s(0), pc(0x8001))
	wantTurn(t, like(x(0xff), elder), []uint8{0x9a}, fetches(1, idle()), s(0x1ff), pc(0x8001))
	wantTurn(t, like(a(0x8000), flags(fM)), []uint8{0x1b}, fetches(1, idle()), s(0x8000), pc(0x8001))
	wantTurn(t, like(s(0x8000), flags(fM)), []uint8{0x3b}, fetches(1, idle()), a(0x8000), flags(fM|fN), pc(0x8001))
	wantTurn(t, like(a(0x8000), flags(fM)), []uint8{0x5b}, fetches(1, idle()), d(0x8000), flags(fM|fN), pc(0x8001))
	wantTurn(t, like(a(0x8000), flags(fM|fN)), []uint8{0x7b}, fetches(1, idle()), a(0), flags(fM|fZ), pc(0x8001))
	wantTurn(t, like(a(0x8000)), []uint8{0xeb}, fetches(1, idle(), idle()), a(0x80), flags(fN), pc(0x8001))
	wantTurn(t, like(a(0x0080)), []uint8{0xeb}, fetches(1, idle(), idle()), a(0x8000), flags(fZ), pc(0x8001))
}

// P8.1, groups 5 and 6: what follows of the flags and of E is settled behind the instruction.
func TestModes(t *testing.T) {
	wantTurn(t, like(x(0x1234), y(0x5678), s(0x2345), flags(fC)), []uint8{0xfb}, fetches(1, idle()), elder, flags(fM|fX), x(0x34), y(0x78), s(0x145), pc(0x8001))
	own := func(r *api.Regs) { r.E = false }
	wantTurn(t, like(elder), []uint8{0xfb}, fetches(1, idle()), own, flags(fM|fX|fC), pc(0x8001))
	wantTurn(t, like(flags(0xff)), []uint8{0xc2, 0x31}, fetches(2, idle()), flags(0xce), pc(0x8002))
	wantTurn(t, like(x(0x1234), y(0x5678), a(0x9abc)), []uint8{0xe2, 0x30}, fetches(2, idle()), flags(0x30), x(0x34), y(0x78), pc(0x8002))
	wantTurn(t, like(elder), []uint8{0xc2, 0xff}, fetches(2, idle()), pc(0x8002))
	wantStop(t, exec.Course(like(), []uint8{0xc2}), fetches(2)...)
}

// P8.1, group 7: what is pushed and pulled, how wide; within the elder's page.
func TestStack(t *testing.T) {
	wantTurn(t, like(a(0x1234), flags(fM)), []uint8{0x48}, fetches(1, idle(), write(0x1ff, 0x34)), s(0x1fe), pc(0x8001))
	wantTurn(t, like(x(0x1234), flags(fM)), []uint8{0xda}, fetches(1, idle(), write(0x1ff, 0x12), write(0x1fe, 0x34)), s(0x1fd), pc(0x8001))
	wantTurn(t, like(y(0x34), flags(fX)), []uint8{0x5a}, fetches(1, idle(), write(0x1ff, 0x34)), s(0x1fe), pc(0x8001))
	wantTurn(t, like(d(0x1234), flags(fM|fX)), []uint8{0x0b}, fetches(1, idle(), write(0x1ff, 0x12), write(0x1fe, 0x34)), s(0x1fd), pc(0x8001))
	wantTurn(t, like(banks(0x80, 0x12)), []uint8{0x8b}, fetches(1, idle(), write(0x1ff, 0x12)), s(0x1fe), pc(0x8001))
	wantTurn(t, like(), []uint8{0x4b}, fetches(1, idle(), write(0x1ff, 0x80)), s(0x1fe), pc(0x8001))
	wantTurn(t, like(flags(0xcf)), []uint8{0x08}, fetches(1, idle(), write(0x1ff, 0xcf)), s(0x1fe), pc(0x8001))
	wantTurn(t, like(s(0), a(0x1234)), []uint8{0x48}, fetches(1, idle(), write(0, 0x12), write(0xffff, 0x34)), s(0xfffe), pc(0x8001))
	wantTurn(t, like(s(0x100), d(0x1234), elder), []uint8{0x0b}, fetches(1, idle(), write(0x100, 0x12), write(0x1ff, 0x34)), s(0x1fe), pc(0x8001))

	wantTurn(t, like(a(0x1234), flags(fM)), []uint8{0x68, 0x80}, fetches(1, idle(), idle(), read(0x200)), a(0x1280), s(0x200), flags(fM|fN), pc(0x8001))
	wantTurn(t, like(a(5), s(0xfffe)), []uint8{0x68, 0, 0}, fetches(1, idle(), idle(), read(0xffff), read(0)), a(0), s(0), flags(fZ), pc(0x8001))
	wantTurn(t, like(flags(fM)), []uint8{0xfa, 0x34, 0x82}, fetches(1, idle(), idle(), read(0x200), read(0x201)), x(0x8234), s(0x201), flags(fM|fN), pc(0x8001))
	wantTurn(t, like(flags(fX)), []uint8{0x7a, 0x34}, fetches(1, idle(), idle(), read(0x200)), y(0x34), s(0x200), pc(0x8001))
	wantTurn(t, like(s(0x1fe), elder), []uint8{0x2b, 0, 0x80}, fetches(1, idle(), idle(), read(0x1ff), read(0x100)), d(0x8000), s(0x100), flags(fM|fX|fN), pc(0x8001))
	wantTurn(t, like(banks(0x80, 5)), []uint8{0xab, 0}, fetches(1, idle(), idle(), read(0x200)), banks(0x80, 0), s(0x200), flags(fZ), pc(0x8001))
	wantTurn(t, like(x(0x1234)), []uint8{0x28, 0xdf}, fetches(1, idle(), idle(), read(0x200)), x(0x34), s(0x200), flags(0xdf), pc(0x8001))
	wantTurn(t, like(elder), []uint8{0x28, 0}, fetches(1, idle(), idle(), read(0x100)), s(0x100), pc(0x8001))
}

// P8.1, group 7: words that are pushed, whatever the flags are.
func TestPushedWords(t *testing.T) {
	wantTurn(t, like(flags(fM|fX)), []uint8{0xf4, 0x34, 0x12}, fetches(3, write(0x1ff, 0x12), write(0x1fe, 0x34)), s(0x1fd), pc(0x8003))
	wantTurn(t, like(d(0x10), banks(0x80, 0x55)), []uint8{0xd4, 5, 0x34, 0x12}, fetches(2, idle(), read(0x15), read(0x16), write(0x1ff, 0x12), write(0x1fe, 0x34)), s(0x1fd), pc(0x8002))
	wantTurn(t, like(d(0x300), elder), []uint8{0xd4, 0xff, 0x34, 0x12}, fetches(2, read(0x3ff), read(0x300), write(0x1ff, 0x12), write(0x1fe, 0x34)), s(0x1fd), pc(0x8002))
	wantTurn(t, like(), []uint8{0x62, 0xff, 0x7f}, fetches(3, idle(), write(0x1ff, 0), write(0x1fe, 2)), s(0x1fd), pc(0x8003))
	wantStop(t, exec.Course(like(), []uint8{0x62, 0xff}), fetches(3)...)
}

// P8.1, group 8: each branch by its flag; the elder needs a cycle more for another page.
func TestBranch(t *testing.T) {
	for code, p := range map[uint8]uint8{0x30: fN, 0x70: fV, 0xb0: fC, 0xf0: fZ} {
		wantTurn(t, like(flags(p)), []uint8{code, 0x10}, fetches(2, idle()), pc(0x8012))
		wantTurn(t, like(flags(0xff-p)), []uint8{code, 0x10}, fetches(2), pc(0x8002))
		wantTurn(t, like(flags(0xff-p)), []uint8{code - 0x20, 0x10}, fetches(2, idle()), pc(0x8012))
		wantTurn(t, like(flags(p)), []uint8{code - 0x20, 0x10}, fetches(2), pc(0x8002))
	}
	wantTurn(t, like(flags(0xff)), []uint8{0x80, 0x80}, fetches(2, idle()), pc(0x7f82))
	wantTurn(t, like(), []uint8{0x80, 0x80}, fetches(2, idle()), pc(0x7f82))
	wantTurn(t, like(elder), []uint8{0x80, 0x80}, fetches(2, idle(), idle()), pc(0x7f82))
	wantTurn(t, like(elder), []uint8{0x80, 0xfe}, fetches(2, idle()))
	wantTurn(t, like(elder), []uint8{0x80, 0xfd}, fetches(2, idle(), idle()), pc(0x7fff))
	wantTurn(t, like(elder), []uint8{0xb0, 0x80}, fetches(2), pc(0x8002))
	list := []api.Access{read(0x8080fd), read(0x8080fe), idle()}
	wantTurn(t, like(elder, pc(0x80fd)), []uint8{0x80, 0}, list, pc(0x80ff))
	wantTurn(t, like(elder, pc(0x80fd)), []uint8{0x80, 1}, append(slices.Clone(list), idle()), pc(0x8100))
	edge := []api.Access{read(0x80fffe), read(0x80ffff), idle()}
	wantTurn(t, like(pc(0xfffe)), []uint8{0x80, 0xff}, edge, pc(0xffff))
	wantTurn(t, like(elder, pc(0xfffe)), []uint8{0x80, 0xff}, append(slices.Clone(edge), idle()), pc(0xffff))
	wantTurn(t, like(), []uint8{0x82, 0xfd, 0x7f}, fetches(3, idle()), pc(0))
	wantTurn(t, like(elder), []uint8{0x82, 0, 0x10}, fetches(3, idle()), pc(0x9003))
}

// P8.1, group 9: jumps, and the places from which they take where they go.
func TestJump(t *testing.T) {
	wantTurn(t, like(), []uint8{0x4c, 0x34, 0x12}, fetches(3), pc(0x1234))
	wantTurn(t, like(), []uint8{0x6c, 0xff, 0xff, 0x34, 0x12}, fetches(3, read(0xffff), read(0)), pc(0x1234))
	wantTurn(t, like(x(2)), []uint8{0x7c, 0xfd, 0xff, 0x34, 0x12}, fetches(3, idle(), read(0x80ffff), read(0x800000)), pc(0x1234))
	wantTurn(t, like(x(0xffff)), []uint8{0x7c, 2, 0, 0x34, 0x12}, fetches(3, idle(), read(0x800001), read(0x800002)), pc(0x1234))
	wantTurn(t, like(), []uint8{0x5c, 0x34, 0x12, 0x56}, fetches(4), pc(0x1234), banks(0x56, 0))
	wantTurn(t, like(), []uint8{0xdc, 0xfe, 0xff, 0x34, 0x12, 0x56}, fetches(3, read(0xfffe), read(0xffff), read(0)), pc(0x1234), banks(0x56, 0))
	wantStop(t, exec.Course(like(), []uint8{0x6c, 0xff, 0xff, 0x34}), fetches(3, read(0xffff), read(0))...)
}

// P8.1, group 10: calls push the place of their last byte; what comes back adds 1.
func TestCall(t *testing.T) {
	wantTurn(t, like(), []uint8{0x20, 0x34, 0x12}, fetches(3, idle(), write(0x1ff, 0x80), write(0x1fe, 2)), s(0x1fd), pc(0x1234))
	list := fetches(2, write(0x1ff, 0x80), write(0x1fe, 2), read(0x808002), idle(), read(0x80ffff), read(0x800000))
	wantTurn(t, like(x(2)), []uint8{0xfc, 0xfd, 0xff, 0x34, 0x12}, list, s(0x1fd), pc(0x1234))
	list = fetches(3, write(0x1ff, 0x80), idle(), read(0x808003), write(0x1fe, 0x80), write(0x1fd, 3))
	wantTurn(t, like(), []uint8{0x22, 0x34, 0x12, 0x56}, list, s(0x1fc), pc(0x1234), banks(0x56, 0))
	wantTurn(t, like(s(0x1fd)), []uint8{0x60, 2, 0x80}, fetches(1, idle(), idle(), read(0x1fe), read(0x1ff), idle()), s(0x1ff), pc(0x8003))
	wantTurn(t, like(), []uint8{0x60, 0xff, 0xff}, fetches(1, idle(), idle(), read(0x200), read(0x201), idle()), s(0x201), pc(0))
	wantTurn(t, like(), []uint8{0x6b, 0xff, 0xff, 0x56}, fetches(1, idle(), idle(), read(0x200), read(0x201), read(0x202)), s(0x202), pc(0), banks(0x56, 0))
	wantTurn(t, like(s(0x1fe), elder), []uint8{0x6b, 0, 0, 0x56}, fetches(1, idle(), idle(), read(0x1ff), read(0x100), read(0x101)), s(0x101), pc(1), banks(0x56, 0))
	list = fetches(1, idle(), idle(), read(0x200), read(0x201), read(0x202), read(0x203))
	wantTurn(t, like(x(0x1234)), []uint8{0x40, 0xd1, 0x34, 0x12, 0x56}, list, x(0x34), flags(0xd1), s(0x203), pc(0x1234), banks(0x56, 0))
	wantTurn(t, like(elder), []uint8{0x40, 0xc1, 0x34, 0x12}, fetches(1, idle(), idle(), read(0x100), read(0x101), read(0x102)), flags(0xf1), s(0x102), pc(0x1234))
}

// P8.1, group 11: a program's own interrupts; the elder has other vectors, and keeps its bank to itself.
func TestTrap(t *testing.T) {
	for code, vector := range map[uint8]uint32{0x00: 0xffe6, 0x02: 0xffe4} {
		list := fetches(2, write(0x1ff, 0x80), write(0x1fe, 0x80), write(0x1fd, 2), write(0x1fc, 0xcb), read(vector), read(vector+1))
		wantTurn(t, like(flags(0xcb)), []uint8{code, 9, 0x34, 0x12}, list, s(0x1fb), flags(0xc7), pc(0x1234), banks(0, 0))
	}
	for code, vector := range map[uint8]uint32{0x00: 0xfffe, 0x02: 0xfff4} {
		list := fetches(2, write(0x101, 0x80), write(0x100, 2), write(0x1ff, 0x38), read(vector), read(vector+1))
		wantTurn(t, like(flags(fD), elder, s(0x101)), []uint8{code, 9, 0x34, 0x12}, list, s(0x1fe), flags(0x34), pc(0x1234), banks(0, 0))
	}
	wantTurn(t, like(), []uint8{0x42, 0xff}, fetches(2), pc(0x8002))
	wantStop(t, exec.Course(like(), []uint8{0x00, 1, 2}), fetches(2, write(0x1ff, 0x80), write(0x1fe, 0x80), write(0x1fd, 2), write(0x1fc, 0), read(0xffe6), read(0xffe7))...)
}

// P8.1, group 12: a move is done again until A was 0, which counts whole, whatever M is.
func TestMove(t *testing.T) {
	list := fetches(3, read(0x02ffff), write(0x010000, 0x77), idle(), idle())
	wantTurn(t, like(x(0xffff)), []uint8{0x54, 1, 2, 0x77}, list, a(0xffff), x(0), y(1), pc(0x8003), banks(0x80, 1))
	wantTurn(t, like(x(0xffff), a(0x100), flags(fM)), []uint8{0x44, 1, 2, 0x77}, list, a(0xff), x(0xfffe), y(0xffff), banks(0x80, 1))
	narrow := fetches(3, read(0x0200ff), write(0x010000, 0x77), idle(), idle())
	wantTurn(t, like(x(0xff), a(0), flags(fX)), []uint8{0x44, 1, 2, 0x77}, narrow, a(0xffff), x(0xfe), y(0xff), pc(0x8003), banks(0x80, 1))
	wantTurn(t, like(x(0xff), a(2), flags(fX)), []uint8{0x54, 1, 2, 0x77}, narrow, a(1), x(0), y(1), banks(0x80, 1))
	edge := []api.Access{read(0x80fffe), read(0x80ffff), read(0x800000), read(0), write(0, 0x77), idle(), idle()}
	wantTurn(t, like(a(1), pc(0xfffe)), []uint8{0x54, 0, 0, 0x77}, edge, a(0), x(1), y(1))
	wantStop(t, exec.Course(like(), []uint8{0x54, 1, 2}), fetches(3, read(0x020000))...)
}

// P8.2: a reset, from any registers.
func TestReset(t *testing.T) {
	list := []api.Access{idle(), idle(), idle(), idle(), idle(), read(0xfffc), read(0xfffd)}
	r := api.Regs{S: 0x100, P: fM | fX, E: true}
	wantAfter(t, exec.Enter(api.WhyReset, r, []uint8{0, 0x80}), r, list, all(pc(0x8000), s(0x1fd), flags(fM|fX|fI)), api.AfterRun)
	r = api.Regs{A: 0x1234, X: 0x5678, Y: 0x9abc, S: 0x5502, D: 0x1111, PC: 0x2222, B: 0x33, K: 0x44, P: 0xcb}
	wantAfter(t, exec.Enter(api.WhyReset, r, []uint8{0x34, 0x12, 9}), r, list, all(elder, flags(0xf7), x(0x78), y(0xbc), s(0x1ff), d(0), pc(0x1234), banks(0, 0)), api.AfterRun)
	wantStop(t, exec.Enter(api.WhyReset, r, []uint8{0}), list...)
	wantStop(t, exec.Enter(api.WhyReset, r, nil), list[:6]...)
}

// P8.2: interrupts from outside; the elder pushes P without the flag X.
func TestInterrupt(t *testing.T) {
	for why, vector := range map[uint8]uint32{api.WhyNMI: 0xffea, api.WhyIRQ: 0xffee} {
		r := like(flags(0xdb), x(0x34), s(1))
		list := []api.Access{idle(), idle(), write(1, 0x80), write(0, 0x80), write(0xffff, 0), write(0xfffe, 0xdb), read(vector), read(vector + 1)}
		wantAfter(t, exec.Enter(why, r, []uint8{0x34, 0x12}), r, list, all(s(0xfffd), flags(0xd7), pc(0x1234), banks(0, 0)), api.AfterRun)
		wantStop(t, exec.Enter(why, r, nil), list[:7]...)
	}
	for why, vector := range map[uint8]uint32{api.WhyNMI: 0xfffa, api.WhyIRQ: 0xfffe} {
		r := like(flags(0xcb), elder, banks(0x80, 7), s(0x101))
		list := []api.Access{idle(), idle(), write(0x101, 0x80), write(0x100, 0), write(0x1ff, 0xeb), read(vector), read(vector + 1)}
		wantAfter(t, exec.Enter(why, r, []uint8{0x34, 0x12}), r, list, all(s(0x1fe), flags(0xf7), pc(0x1234), banks(0, 7)), api.AfterRun)
	}
}

// P8.2: what is no interrupt has no accesses, and settles.
func TestEnterOther(t *testing.T) {
	r := api.Regs{A: 0x1234, X: 0x5678, S: 0x9abc, PC: 0x8000, K: 0x80, E: true}
	for why := 3; why < 256; why++ {
		got := exec.Enter(uint8(why), r, []uint8{1, 2})
		wantAfter(t, got, r, nil, all(elder, x(0x78), s(0x1bc)), api.AfterRun)
	}
}

// P8.2: vectors, of all that there is.
func TestVector(t *testing.T) {
	for why := range 256 {
		var own, old uint32
		switch why {
		case api.WhyReset:
			own, old = 0xfffc, 0xfffc
		case api.WhyNMI:
			own, old = 0xffea, 0xfffa
		case api.WhyIRQ:
			own, old = 0xffee, 0xfffe
		}
		if v, e := exec.Vector(uint8(why), false), exec.Vector(uint8(why), true); v != own || e != old {
			t.Errorf("Vector(%d, ..): %04x, %04x, want %04x, %04x", why, v, e, own, old)
		}
	}
}
