// Package clock keeps the times of several threads in one unit: which thread is next, and how far each may run.
package clock

import (
	"iter"
	"slices"

	"lanthorn/api"
)

// thread is one of a clock's threads: its number, how many units of time a tick of it takes.
type thread struct {
	number int
	scale  int64
}

// Clock is some threads and their times.
type Clock struct {
	threads []thread
	times   []int64 // by the threads' numbers; a list of its own, so that it is handed out and laid in one piece
}

// New makes a clock of threads with these scales, all of whose times are 0.
func New(scales []int64) (*Clock, api.Errno) {
	switch {
	case len(scales) == 0:
		return nil, api.ErrArg
	case len(scales) > api.MaxThreads:
		return nil, api.ErrLarge
	case anyBelow(scales, 1):
		return nil, api.ErrArg
	case anyAbove(scales, api.MaxScale):
		return nil, api.ErrLarge
	}
	c := &Clock{times: make([]int64, len(scales))}
	for i, scale := range scales {
		c.threads = append(c.threads, thread{i, scale})
	}
	return c, api.OK
}

// Len is how many threads there are.
func (c *Clock) Len() int {
	if c == nil {
		return 0
	}
	return len(c.threads)
}

// Scale is how many units of time a tick of a thread takes.
func (c *Clock) Scale(i int) (int64, api.Errno) {
	if e := c.check(i); e != api.OK {
		return 0, e
	}
	return c.threads[i].scale, api.OK
}

// At is a thread's time.
func (c *Clock) At(i int) (int64, api.Errno) {
	if e := c.check(i); e != api.OK {
		return 0, e
	}
	return c.times[i], api.OK
}

// Add moves a thread on by so many ticks.
func (c *Clock) Add(i, ticks int) api.Errno {
	if e := c.check(i); e != api.OK {
		return e
	}
	if ticks < 0 || ticks > api.MaxTicks {
		return api.ErrArg
	}
	to := c.times[i] + c.threads[i].scale*int64(ticks)
	if to > api.MaxTime {
		return api.ErrLarge
	}
	c.times[i] = to
	return api.OK
}

// Next is the thread that is ahead of all others; -1: there is no clock.
func (c *Clock) Next() int {
	if c == nil {
		return -1
	}
	return foremost(c.threads, c.ahead)
}

// Order goes over the threads, each ahead of those behind it.
func (c *Clock) Order() iter.Seq[int] {
	return func(yield func(int) bool) {
		if c == nil {
			return
		}
		for _, t := range ranked(c.threads, c.ahead) {
			if !yield(t.number) {
				return
			}
		}
	}
}

// Room is the least number of ticks by which a thread would have to be moved on for another one to be next.
func (c *Clock) Room(i int) (int, api.Errno) {
	if e := c.check(i); e != api.OK {
		return 0, e
	}
	for other := range c.Order() {
		if other != i {
			return c.ticksBehind(i, other), api.OK
		}
	}
	return api.MaxTicks, api.OK
}

// Normalise takes the least of the times away from all of them: how much that was.
func (c *Clock) Normalise() int64 {
	next := c.Next()
	if next < 0 {
		return 0
	}
	least := c.times[next]
	for i := range c.times {
		c.times[i] -= least
	}
	return least
}

// Times are the threads' times.
func (c *Clock) Times() []int64 {
	if c == nil {
		return nil
	}
	return slices.Clone(c.times)
}

// Set lays the threads' times.
func (c *Clock) Set(l []int64) api.Errno {
	switch {
	case c == nil:
		return api.ErrNil
	case len(l) != len(c.times) || anyBelow(l, 0):
		return api.ErrArg
	case anyAbove(l, api.MaxTime):
		return api.ErrLarge
	}
	copy(c.times, l)
	return api.OK
}

// check tells what is wrong with asking for a thread.
func (c *Clock) check(i int) api.Errno {
	switch {
	case c == nil:
		return api.ErrNil
	case i < 0 || i >= len(c.threads):
		return api.ErrRange
	}
	return api.OK
}

// ahead tells whether a thread is ahead of another one.
func (c *Clock) ahead(t, other thread) bool {
	at, otherAt := c.times[t.number], c.times[other.number]
	return at < otherAt || at == otherAt && t.number < other.number
}

// ticksBehind is the least number of ticks, at most MaxTicks, that leave the other thread ahead of thread i.
func (c *Clock) ticksBehind(i, other int) int {
	units := c.times[other] - c.times[i]
	if i < other {
		units++ // at the same time the lesser number would still be ahead
	}
	scale := c.threads[i].scale
	ticks := (max(units, 0) + scale - 1) / scale
	return int(min(ticks, api.MaxTicks))
}

// foremost is the number of the thread that is ahead of all others; -1: the list is empty.
func foremost(list []thread, ahead func(t, other thread) bool) int {
	first := thread{number: -1}
	for _, t := range list {
		if first.number < 0 || ahead(t, first) {
			first = t
		}
	}
	return first.number
}

// ranked is a new list of the threads, each ahead of those behind it.
func ranked(list []thread, ahead func(t, other thread) bool) []thread {
	list = slices.Clone(list)
	slices.SortFunc(list, func(t, other thread) int {
		switch {
		case ahead(t, other):
			return -1
		case ahead(other, t):
			return 1
		}
		return 0
	})
	return list
}

func anyBelow(l []int64, least int64) bool {
	return slices.ContainsFunc(l, func(n int64) bool { return n < least })
}

func anyAbove(l []int64, most int64) bool {
	return slices.ContainsFunc(l, func(n int64) bool { return n > most })
}
