package clock_test

import (
	"math"
	"slices"
	"testing"

	"lanthorn/api"
	"lanthorn/clock"
)

// made is a clock with these scales and times.
func made(t *testing.T, scales, times []int64) *clock.Clock {
	t.Helper()
	c, e := clock.New(scales)
	if e != api.OK || c == nil {
		t.Fatalf("New(%v): %v, error %d", scales, c, e)
	}
	if times != nil {
		if e := c.Set(times); e != api.OK {
			t.Fatalf("Set(%v): error %d", times, e)
		}
	}
	return c
}

func wantErr(t *testing.T, what string, got, want api.Errno) {
	t.Helper()
	if got != want {
		t.Errorf("%s: error %d, want %d", what, got, want)
	}
}

func wantTimes(t *testing.T, c *clock.Clock, want ...int64) {
	t.Helper()
	if got := c.Times(); !slices.Equal(got, want) {
		t.Errorf("Times: %v, want %v", got, want)
	}
	for i, n := range want {
		if got, e := c.At(i); got != n || e != api.OK {
			t.Errorf("At(%d): %d, error %d, want %d", i, got, e, n)
		}
	}
}

func wantOrder(t *testing.T, c *clock.Clock, want ...int) {
	t.Helper()
	if got := slices.Collect(c.Order()); !slices.Equal(got, want) {
		t.Errorf("Order at %v: %v, want %v", c.Times(), got, want)
	}
	if got := c.Next(); got != want[0] {
		t.Errorf("Next at %v: %d, want %d", c.Times(), got, want[0])
	}
}

func wantRoom(t *testing.T, c *clock.Clock, i, want int) {
	t.Helper()
	if got, e := c.Room(i); got != want || e != api.OK {
		t.Errorf("Room(%d) at %v: %d, error %d, want %d", i, c.Times(), got, e, want)
	}
}

// numbers are so many times the number n.
func numbers(many int, n int64) []int64 { return slices.Repeat([]int64{n}, many) }

// eachClock goes over the clocks of one to three threads, with small scales and times.
func eachClock(t *testing.T, do func(c *clock.Clock, scales, times []int64)) {
	t.Helper()
	scales, times := []int64{1, 2, 3}, []int64{0, 1, 2, 5}
	for many := 1; many <= 3; many++ {
		eachRow(many, scales, func(s []int64) {
			eachRow(many, times, func(l []int64) { do(made(t, s, l), s, l) })
		})
	}
}

// eachRow goes over the rows of so many of these numbers.
func eachRow(many int, of []int64, do func([]int64)) {
	if many == 0 {
		do(nil)
		return
	}
	eachRow(many-1, of, func(l []int64) {
		for _, n := range of {
			do(append(slices.Clone(l), n))
		}
	})
}

// isAhead is the document's word, as it stands there.
func isAhead(times []int64, i, j int) bool {
	return times[i] < times[j] || times[i] == times[j] && i < j
}

// naiveNext is the thread that is ahead of all others, found by asking each one.
func naiveNext(times []int64) int {
	for i := range times {
		all := true
		for j := range times {
			all = all && (i == j || isAhead(times, i, j))
		}
		if all {
			return i
		}
	}
	return -1
}

// naiveRoom is the room of a thread, found by moving it tick by tick.
func naiveRoom(scales, times []int64, i int) int {
	if len(times) == 1 {
		return api.MaxTicks
	}
	times = slices.Clone(times)
	ticks := 0
	for naiveNext(times) == i {
		times[i] += scales[i]
		ticks++
	}
	return ticks
}

// The chapter's examples, in their order.
func TestExamples(t *testing.T) {
	c := made(t, []int64{3, 5}, nil)
	wantOrder(t, c, 0, 1)
	wantRoom(t, c, 0, 1)
	wantRoom(t, c, 1, 0)
	wantErr(t, "Add(0, 2)", c.Add(0, 2), api.OK)
	wantTimes(t, c, 6, 0)
	wantOrder(t, c, 1, 0)
	wantRoom(t, c, 1, 2)
	wantRoom(t, c, 0, 0)
	wantErr(t, "Add(1, 2)", c.Add(1, 2), api.OK)
	wantTimes(t, c, 6, 10)
	wantOrder(t, c, 0, 1)
	wantRoom(t, c, 0, 2)
	if n := c.Normalise(); n != 6 {
		t.Errorf("Normalise: %d, want 6", n)
	}
	wantTimes(t, c, 0, 4)
	wantErr(t, "Set(4 4)", c.Set([]int64{4, 4}), api.OK)
	wantOrder(t, c, 0, 1)
	wantRoom(t, c, 0, 1)
	wantErr(t, "Add(2, 1)", c.Add(2, 1), api.ErrRange)
	wantErr(t, "Add(0, -1)", c.Add(0, -1), api.ErrArg)
	wantErr(t, "Set(1)", c.Set([]int64{1}), api.ErrArg)
	wantTimes(t, c, 4, 4)
}

// P1.1, the limits, and R2: what New refuses, the first error first.
func TestNewErrors(t *testing.T) {
	for _, x := range []struct {
		what   string
		scales []int64
		want   api.Errno
	}{
		{"nil", nil, api.ErrArg},
		{"an empty list", []int64{}, api.ErrArg},
		{"one thread", []int64{1}, api.OK},
		{"as many threads as may be", numbers(api.MaxThreads, 1), api.OK},
		{"one more", numbers(api.MaxThreads+1, 1), api.ErrLarge},
		{"one more, of scales that may not be", numbers(api.MaxThreads+1, 0), api.ErrLarge},
		{"a scale of 0", []int64{1, 0}, api.ErrArg},
		{"a scale below 0", []int64{1, -1}, api.ErrArg},
		{"the least number", []int64{math.MinInt64}, api.ErrArg},
		{"the greatest scale", []int64{api.MaxScale, 1}, api.OK},
		{"one above it", []int64{1, api.MaxScale + 1}, api.ErrLarge},
		{"the greatest number", []int64{math.MaxInt64}, api.ErrLarge},
		{"one above it, ahead of a scale of 0", []int64{api.MaxScale + 1, 0}, api.ErrArg},
	} {
		c, e := clock.New(x.scales)
		wantErr(t, "New of "+x.what, e, x.want)
		if (c == nil) != (x.want != api.OK) {
			t.Errorf("New of %s: a clock and error %d", x.what, e)
		}
	}
}

// P1.1: the scales are those handed in, the times 0.
func TestNewClock(t *testing.T) {
	scales := []int64{7, 1, api.MaxScale}
	c := made(t, scales, nil)
	if c.Len() != 3 {
		t.Errorf("Len: %d", c.Len())
	}
	for i, want := range scales {
		if got, e := c.Scale(i); got != want || e != api.OK {
			t.Errorf("Scale(%d): %d, error %d, want %d", i, got, e, want)
		}
	}
	wantTimes(t, c, 0, 0, 0)
	if n := made(t, numbers(api.MaxThreads, 2), nil).Len(); n != api.MaxThreads {
		t.Errorf("Len of the most threads: %d", n)
	}
}

// P1.1, P1.2, and R3: nothing that is handed in is kept or changed, nothing handed out is the clock's own.
func TestNothingShared(t *testing.T) {
	room := []int64{3, 5, 77, 78}
	scales := room[:2]
	c := made(t, scales, nil)
	scales[0], scales[1] = 9, 0
	for i, want := range []int64{3, 5} {
		if got, _ := c.Scale(i); got != want {
			t.Errorf("Scale(%d): %d behind a change of New's list, want %d", i, got, want)
		}
	}
	given := []int64{8, 4, 77, 78}
	laid := given[:2]
	wantErr(t, "Set", c.Set(laid), api.OK)
	laid[0] = 99
	wantTimes(t, c, 8, 4)
	out := c.Times()
	out[0], out[1] = 50, 60
	out = append(out, 70)
	wantTimes(t, c, 8, 4)
	c.Add(0, 1)
	c.Normalise()
	for range c.Order() {
	}
	if !slices.Equal(out, []int64{50, 60, 70}) || !slices.Equal(given, []int64{99, 4, 77, 78}) || !slices.Equal(room, []int64{9, 0, 77, 78}) {
		t.Error("a list of somebody else was changed", out, given, room)
	}
}

// P1.1, P1.4: what there is no thread for.
func TestNoSuchThread(t *testing.T) {
	c := made(t, []int64{3, 5}, []int64{6, 1})
	for _, i := range []int{-1, 2, math.MinInt, math.MaxInt} {
		n, e := c.Scale(i)
		wantErr(t, "Scale", e, api.ErrRange)
		at, e := c.At(i)
		wantErr(t, "At", e, api.ErrRange)
		room, e := c.Room(i)
		wantErr(t, "Room", e, api.ErrRange)
		if n != 0 || at != 0 || room != 0 {
			t.Errorf("beside an error: %d, %d, %d", n, at, room)
		}
		wantErr(t, "Add", c.Add(i, 1), api.ErrRange)
		wantErr(t, "Add of ticks that may not be", c.Add(i, -1), api.ErrRange)
	}
	wantTimes(t, c, 6, 1)
}

// P1.2: Add moves by the scale times the ticks, one thread alone.
func TestAdd(t *testing.T) {
	c := made(t, []int64{3, 5, 7}, []int64{0, 10, 20})
	wantErr(t, "Add", c.Add(1, 4), api.OK)
	wantTimes(t, c, 0, 30, 20)
	wantErr(t, "Add of 0", c.Add(2, 0), api.OK)
	wantTimes(t, c, 0, 30, 20)
	wantErr(t, "Add", c.Add(2, api.MaxTicks), api.OK)
	wantTimes(t, c, 0, 30, 20+7*api.MaxTicks)
}

// P1.2, the limits, and R2: what Add refuses, and that nothing has changed then.
func TestAddErrors(t *testing.T) {
	const most = api.MaxTime
	for _, x := range []struct {
		what  string
		at    int64
		ticks int
		want  api.Errno
	}{
		{"ticks below 0", 0, -1, api.ErrArg},
		{"the least number", 0, math.MinInt, api.ErrArg},
		{"more than MaxTicks", 0, api.MaxTicks + 1, api.ErrArg},
		{"the greatest number", 0, math.MaxInt, api.ErrArg},
		{"more than MaxTicks, at the greatest time", most, api.MaxTicks + 1, api.ErrArg},
		{"0 at the greatest time", most, 0, api.OK},
		{"1 at the greatest time", most, 1, api.ErrLarge},
		{"as many as may be", most, api.MaxTicks, api.ErrLarge},
		{"up to the greatest time", most - api.MaxScale, 1, api.OK},
		{"a unit past it", most - api.MaxScale + 1, 1, api.ErrLarge},
		{"all ticks up to it", most - api.MaxScale*api.MaxTicks, api.MaxTicks, api.OK},
		{"all ticks a unit past it", most - api.MaxScale*api.MaxTicks + 1, api.MaxTicks, api.ErrLarge},
	} {
		c := made(t, []int64{1, api.MaxScale}, []int64{5, x.at})
		wantErr(t, "Add of "+x.what, c.Add(1, x.ticks), x.want)
		after := x.at
		if x.want == api.OK {
			after += api.MaxScale * int64(x.ticks)
		}
		wantTimes(t, c, 5, after)
	}
}

// P1.2, the limits, and R2: what Set lays and refuses, and that nothing has changed then.
func TestSet(t *testing.T) {
	for _, x := range []struct {
		what string
		l    []int64
		want api.Errno
	}{
		{"nil", nil, api.ErrArg},
		{"too few", []int64{1}, api.ErrArg},
		{"too many", []int64{1, 2, 3}, api.ErrArg},
		{"too many, past the limit", []int64{1, 2, api.MaxTime + 1}, api.ErrArg},
		{"one below 0", []int64{1, -1}, api.ErrArg},
		{"the least number", []int64{math.MinInt64, 1}, api.ErrArg},
		{"one past the limit, ahead of one below 0", []int64{api.MaxTime + 1, -1}, api.ErrArg},
		{"one past the limit", []int64{1, api.MaxTime + 1}, api.ErrLarge},
		{"the greatest number", []int64{math.MaxInt64, 1}, api.ErrLarge},
		{"the limit, and 0", []int64{api.MaxTime, 0}, api.OK},
		{"others", []int64{3, 17}, api.OK},
	} {
		c := made(t, []int64{3, 5}, []int64{6, 10})
		wantErr(t, "Set of "+x.what, c.Set(x.l), x.want)
		if x.want == api.OK {
			wantTimes(t, c, x.l...)
		} else {
			wantTimes(t, c, 6, 10)
		}
	}
}

// P1.3: of several times that are the same the lesser number is ahead.
func TestOrder(t *testing.T) {
	c := made(t, numbers(5, 1), []int64{4, 2, 4, 0, 2})
	wantOrder(t, c, 3, 1, 4, 0, 2)
	wantOrder(t, made(t, numbers(3, 1), []int64{9, 9, 9}), 0, 1, 2)
	wantOrder(t, made(t, numbers(3, 1), []int64{api.MaxTime, 1, 0}), 2, 1, 0)
	wantOrder(t, made(t, []int64{4}, nil), 0)
	most, falling, want := numbers(api.MaxThreads, 1), []int64{}, []int{}
	for i := range api.MaxThreads {
		falling = append(falling, int64(api.MaxThreads-i))
		want = append(want, api.MaxThreads-1-i)
	}
	wantOrder(t, made(t, most, falling), want...)
}

// P1.3: of the most threads that may be, among which many times are the same, the lesser number is ahead.
func TestOrderOfMany(t *testing.T) {
	for turn := range api.MaxThreads {
		times, want := numbers(api.MaxThreads, 0), []int{}
		for i := range times {
			times[i] = int64(i*7+turn) % 3
		}
		for at := range int64(3) {
			for i := range times {
				if times[i] == at {
					want = append(want, i)
				}
			}
		}
		wantOrder(t, made(t, numbers(api.MaxThreads, 1), times), want...)
	}
}

// P1.3: each small clock's Next and Order, against the document's word.
func TestOrderOfAll(t *testing.T) {
	eachClock(t, func(c *clock.Clock, _, times []int64) {
		l := slices.Collect(c.Order())
		for k, i := range l {
			for _, j := range l[k+1:] {
				if !isAhead(times, i, j) {
					t.Errorf("Order at %v: %v", times, l)
				}
			}
		}
		if c.Next() != naiveNext(times) || len(l) != len(times) || l[0] != c.Next() {
			t.Errorf("at %v: Next %d, Order %v", times, c.Next(), l)
		}
	})
}

// P1.3, R6: Order may be left early and gone through again; it tells what there is when going through begins.
func TestOrderGoneThrough(t *testing.T) {
	c := made(t, []int64{1, 1, 1}, []int64{3, 2, 1})
	order := c.Order()
	for i := range order {
		if i != 2 {
			t.Errorf("the first one is %d", i)
		}
		break
	}
	if l := slices.Collect(order); !slices.Equal(l, []int{2, 1, 0}) {
		t.Errorf("gone through again: %v", l)
	}
	c.Set([]int64{1, 2, 3})
	if l := slices.Collect(order); !slices.Equal(l, []int{0, 1, 2}) {
		t.Errorf("behind a Set: %v", l)
	}
	seen := []int{}
	for i := range order {
		seen = append(seen, i)
		c.Add(i, 10)
		for j := range order {
			if j != c.Next() {
				t.Errorf("one within another begins with %d", j)
			}
			break
		}
		c.Set([]int64{30, 20, 10})
	}
	if !slices.Equal(seen, []int{0, 1, 2}) {
		t.Errorf("while the times change: %v", seen)
	}
}

// P1.4: each small clock's Room, against moving tick by tick; and that asking changes nothing.
func TestRoomOfAll(t *testing.T) {
	eachClock(t, func(c *clock.Clock, scales, times []int64) {
		for i := range times {
			want := naiveRoom(scales, times, i)
			if got, e := c.Room(i); got != want || e != api.OK {
				t.Errorf("scales %v, times %v: Room(%d) = %d, error %d, want %d", scales, times, i, got, e, want)
			}
		}
		if !slices.Equal(c.Times(), times) {
			t.Errorf("Room changed %v to %v", times, c.Times())
		}
	})
}

// P1.4: Room's edges: a thread alone, MaxTicks, and the greatest numbers.
func TestRoomEdges(t *testing.T) {
	for _, x := range []struct {
		what          string
		scales, times []int64
		i, want       int
	}{
		{"a thread alone", []int64{3}, []int64{0}, 0, api.MaxTicks},
		{"alone at the greatest time", []int64{3}, []int64{api.MaxTime}, 0, api.MaxTicks},
		{"one less than MaxTicks", []int64{1, 1}, []int64{0, api.MaxTicks - 2}, 0, api.MaxTicks - 1},
		{"just MaxTicks", []int64{1, 1}, []int64{0, api.MaxTicks - 1}, 0, api.MaxTicks},
		{"more than MaxTicks", []int64{1, 1}, []int64{0, api.MaxTicks}, 0, api.MaxTicks},
		{"just MaxTicks of the greater number", []int64{1, 1}, []int64{api.MaxTicks, 0}, 1, api.MaxTicks},
		{"far more", []int64{1, 1}, []int64{0, api.MaxTime}, 0, api.MaxTicks},
		{"far more of the greatest scale", []int64{1, api.MaxScale}, []int64{api.MaxTime, 0}, 1, api.MaxTicks},
		{"much of the greatest scale", []int64{1, api.MaxScale}, []int64{api.MaxScale * 1000, 0}, 1, 1000},
		{"a unit more", []int64{1, api.MaxScale}, []int64{api.MaxScale*1000 + 1, 0}, 1, 1001},
		{"the same of the lesser number", []int64{api.MaxScale, 1}, []int64{0, api.MaxScale * 1000}, 0, 1001},
		{"the same time", []int64{1, 1}, []int64{api.MaxTime, api.MaxTime}, 0, 1},
		{"the same time, behind", []int64{1, 1}, []int64{api.MaxTime, api.MaxTime}, 1, 0},
		{"far behind", []int64{1, 1}, []int64{api.MaxTime, 0}, 0, 0},
		{"the nearest of several counts", []int64{2, 1, 1}, []int64{0, 9, 4}, 0, 3},
		{"among several at one time the first counts", []int64{1, 2, 1}, []int64{4, 0, 4}, 1, 2},
	} {
		c := made(t, x.scales, x.times)
		if got, e := c.Room(x.i); got != x.want || e != api.OK {
			t.Errorf("%s: Room = %d, error %d, want %d", x.what, got, e, x.want)
		}
	}
}

// P1.5, P1.6: Normalise takes the least time away and leaves all else as it was.
func TestNormalise(t *testing.T) {
	eachClock(t, func(c *clock.Clock, scales, times []int64) {
		next, order := c.Next(), slices.Collect(c.Order())
		rooms := make([]int, len(times))
		for i := range rooms {
			rooms[i], _ = c.Room(i)
		}
		least := slices.Min(times)
		if n := c.Normalise(); n != least {
			t.Errorf("Normalise of %v: %d", times, n)
		}
		for i, n := range c.Times() {
			if n != times[i]-least {
				t.Errorf("Normalise of %v leaves %v", times, c.Times())
			}
			wantRoom(t, c, i, rooms[i])
			if scale, _ := c.Scale(i); scale != scales[i] {
				t.Errorf("Normalise changed the scale %d to %d", scales[i], scale)
			}
		}
		wantOrder(t, c, order...)
		if at, _ := c.At(next); at != 0 {
			t.Errorf("behind Normalise the next thread's time is %d", at)
		}
		if n := c.Normalise(); n != 0 {
			t.Errorf("Normalise anew: %d", n)
		}
	})
	c := made(t, []int64{1, 1}, []int64{api.MaxTime, api.MaxTime - 3})
	if n := c.Normalise(); n != api.MaxTime-3 {
		t.Errorf("Normalise at the limit: %d", n)
	}
	wantTimes(t, c, 3, 0)
}

// P1.6: moving the next thread alone, by at most K units each time, keeps all within K of one another.
func TestSpread(t *testing.T) {
	const most = 60
	scales := []int64{3, 5, 7, 60}
	c := made(t, scales, []int64{0, 60, 31, 2})
	moved := make([]int, len(scales))
	for step := range 5000 {
		i := c.Next()
		c.Add(i, step*7%(most/int(scales[i])+1))
		moved[i]++
		if l := c.Times(); slices.Max(l)-slices.Min(l) > most {
			t.Fatalf("step %d: %v", step, l)
		}
		if step%100 == 99 {
			c.Normalise()
		}
	}
	if slices.Min(moved) == 0 {
		t.Errorf("a thread was never next: %v", moved)
	}
}

// P1.6: by less than its Room the next thread stays so, by its Room it does not.
func TestRoomIsExact(t *testing.T) {
	eachClock(t, func(c *clock.Clock, scales, times []int64) {
		i := c.Next()
		room, _ := c.Room(i)
		if room < 1 {
			t.Errorf("times %v: the next thread has no room", times)
		}
		if room == api.MaxTicks {
			c.Add(i, room)
			wantOrder(t, c, i)
			return
		}
		c.Add(i, room-1)
		if c.Next() != i {
			t.Errorf("scales %v, times %v: by less than %d another one is next", scales, times, room)
		}
		c.Add(i, 1)
		if c.Next() == i {
			t.Errorf("scales %v, times %v: by %d it still is next", scales, times, room)
		}
	})
	c := made(t, []int64{1, 1}, []int64{0, api.MaxTicks + 5})
	c.Add(0, api.MaxTicks)
	wantOrder(t, c, 0, 1)
	wantRoom(t, c, 0, 6)
}

// R4: what a clock that is not there answers.
func TestNil(t *testing.T) {
	var c *clock.Clock
	for _, i := range []int{math.MinInt, -1, 0, 1, math.MaxInt} {
		n, e := c.Scale(i)
		wantErr(t, "Scale", e, api.ErrNil)
		at, e := c.At(i)
		wantErr(t, "At", e, api.ErrNil)
		room, e := c.Room(i)
		wantErr(t, "Room", e, api.ErrNil)
		if n != 0 || at != 0 || room != 0 {
			t.Errorf("beside an error: %d, %d, %d", n, at, room)
		}
		wantErr(t, "Add", c.Add(i, i), api.ErrNil)
	}
	wantErr(t, "Set of nil", c.Set(nil), api.ErrNil)
	wantErr(t, "Set", c.Set([]int64{-1}), api.ErrNil)
	if c.Len() != 0 || c.Next() != -1 || c.Normalise() != 0 || len(c.Times()) != 0 {
		t.Error("a nil clock answers", c.Len(), c.Next(), c.Normalise(), c.Times())
	}
	for i := range c.Order() {
		t.Error("a nil clock has a thread", i)
	}
}

// R5: clocks know nothing of one another, and do the same when the same is done to them.
func TestApart(t *testing.T) {
	a, b := made(t, []int64{3, 5}, nil), made(t, []int64{3, 5}, nil)
	a.Add(0, 4)
	wantTimes(t, b, 0, 0)
	b.Set([]int64{7, 8})
	b.Normalise()
	wantTimes(t, a, 12, 0)
	b.Set([]int64{0, 0})
	b.Add(0, 4)
	wantOrder(t, a, 1, 0)
	wantOrder(t, b, 1, 0)
	wantTimes(t, b, a.Times()...)
}
