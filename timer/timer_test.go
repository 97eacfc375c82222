package timer_test

import (
	"math"
	"math/rand"
	"slices"
	"testing"

	"polliwog/timer"
)

const (
	many = 5
	most = 1 << 20
)

// all are the timers there are, none are numbers of which there is no timer.
var (
	all  = []int{timer.CC, timer.Poll, timer.Keep, timer.Silent, timer.Idle}
	none = []int{math.MinInt, math.MinInt32, -256, -5, -2, -1, 5, 6, 7, 8, 255, 256, 1 << 32, 1<<32 + 1, math.MaxInt}
)

// clock is the timers by when they are over, next to which a Bank is held.
type clock struct {
	now  int
	over map[int]int // of each that runs
}

func newClock() *clock { return &clock{over: map[int]int{}} }

func (c *clock) start(t, ticks int) {
	if slices.Contains(all, t) {
		switch {
		case ticks < 1:
			ticks = 1
		case ticks > most:
			ticks = most
		}
		c.over[t] = c.now + ticks
	}
}

func (c *clock) tick() []int {
	c.now++
	var l []int
	for _, t := range all {
		if at, ok := c.over[t]; ok && at == c.now {
			delete(c.over, t)
			l = append(l, t)
		}
	}
	return l
}

func (c *clock) next() (int, bool) {
	least := math.MaxInt
	for _, at := range c.over {
		least = min(least, at-c.now)
	}
	if len(c.over) == 0 {
		return 0, false
	}
	return least, true
}

func (c *clock) clone() *clock {
	d := &clock{c.now, map[int]int{}}
	for t, at := range c.over {
		d.over[t] = at
	}
	return d
}

// check asks a Bank all that can be asked without changing it.
func check(t *testing.T, b *timer.Bank, c *clock) {
	t.Helper()
	for _, i := range all {
		at, runs := c.over[i]
		left := 0
		if runs {
			left = at - c.now
		}
		if b.Runs(i) != runs || b.Left(i) != left {
			t.Fatalf("P8.1: timer %d: Runs %v, Left %d, want %v, %d", i, b.Runs(i), b.Left(i), runs, left)
		}
	}
	for _, i := range none {
		if b.Runs(i) || b.Left(i) != 0 {
			t.Fatalf("P8.1: timer %d, which there isn't: Runs %v, Left %d", i, b.Runs(i), b.Left(i))
		}
	}
	next, runs := b.Next()
	if want, wantRuns := c.next(); next != want || runs != wantRuns {
		t.Fatalf("P8.1: Next = %d, %v, want %d, %v", next, runs, want, wantRuns)
	}
}

// tick has a tick of both, and looks whether the same are over.
func tick(t *testing.T, b *timer.Bank, c *clock) {
	t.Helper()
	if got, want := b.Tick(), c.tick(); !slices.Equal(got, want) {
		t.Fatalf("P8.2: Tick %d = %v, want %v", c.now, got, want)
	}
}

func TestTimersAreCounted(t *testing.T) {
	if !slices.Equal(all, []int{0, 1, 2, 3, 4}) {
		t.Errorf("P8.1: the timers are %v", all)
	}
}

func TestExample(t *testing.T) {
	var b timer.Bank
	b.Start(timer.Poll, 2)
	b.Start(timer.CC, 2)
	if l := b.Tick(); len(l) != 0 {
		t.Errorf("P8.2: the first Tick = %v", l)
	}
	if l := b.Tick(); !slices.Equal(l, []int{timer.CC, timer.Poll}) {
		t.Errorf("P8.2: the second Tick = %v", l)
	}
	if l := b.Tick(); len(l) != 0 {
		t.Errorf("P8.2: the third Tick = %v", l)
	}
}

func TestZeroBankRunsNone(t *testing.T) {
	var b timer.Bank
	for range 3 {
		check(t, &b, newClock())
		if l := b.Tick(); l != nil {
			t.Errorf("P8.1: Tick of none that runs = %v", l)
		}
	}
	for i := range many {
		b.Stop(i)
	}
	b.Clear()
	if b != (timer.Bank{}) {
		t.Errorf("P8.1: a Bank of which none runs isn't the zero one")
	}
}

// TestOverAtItsTick has each timer run down alone: it is over at its tick, and not ahead of it.
func TestOverAtItsTick(t *testing.T) {
	for _, i := range all {
		for _, ticks := range []int{1, 2, 3, 4, 7, 64, 255, 256, 257, 65535, 65536, 65537} {
			var b timer.Bank
			b.Start(i, ticks)
			for n := 1; n < ticks; n++ {
				if l := b.Tick(); l != nil || b.Left(i) != ticks-n || !b.Runs(i) {
					t.Fatalf("P8.2: timer %d of %d ticks: Tick %d = %v, Left %d", i, ticks, n, l, b.Left(i))
				}
			}
			if l := b.Tick(); !slices.Equal(l, []int{i}) || b.Left(i) != 0 || b.Runs(i) {
				t.Fatalf("P8.2: timer %d of %d ticks: the last Tick = %v, Left %d", i, ticks, l, b.Left(i))
			}
			for range 5 {
				if l := b.Tick(); l != nil || b.Left(i) != 0 || b.Runs(i) {
					t.Fatalf("P8.2: timer %d of %d ticks goes on: Tick = %v, Left %d", i, ticks, l, b.Left(i))
				}
			}
		}
	}
}

// TestTicksCountAsTheNearest is of ticks below 1, and of 2^20 and more.
func TestTicksCountAsTheNearest(t *testing.T) {
	for ticks, want := range map[int]int{
		math.MinInt: 1, math.MinInt32: 1, -most: 1, -2: 1, -1: 1, 0: 1, 1: 1, 2: 2, most - 1: most - 1, most: most,
		most + 1: most, 2 * most: most, math.MaxInt32: most, 1 << 32: most, 1<<32 + 3: most, math.MaxInt: most,
	} {
		for _, i := range all {
			var b timer.Bank
			b.Start(i, ticks)
			next, ok := b.Next()
			if b.Left(i) != want || !b.Runs(i) || next != want || !ok {
				t.Errorf("P8.1: timer %d Started with %d: Left %d, Next %d, %v, want %d", i, ticks, b.Left(i), next, ok, want)
			}
			for _, other := range all {
				if other != i && b.Runs(other) {
					t.Errorf("P8.1: Start of timer %d starts %d", i, other)
				}
			}
		}
	}
}

// TestMostTicks has timers of the most ticks run down whole, and one of fewer ahead of them.
func TestMostTicks(t *testing.T) {
	var b timer.Bank
	b.Start(timer.Silent, math.MaxInt)
	b.Start(timer.CC, most)
	b.Start(timer.Idle, most-1)
	for n := 1; n <= most+3; n++ {
		l := b.Tick()
		switch {
		case n == most-1 && !slices.Equal(l, []int{timer.Idle}):
			t.Fatalf("P8.2: Tick %d = %v", n, l)
		case n == most && !slices.Equal(l, []int{timer.CC, timer.Silent}):
			t.Fatalf("P8.2: Tick %d = %v", n, l)
		case n != most-1 && n != most && l != nil:
			t.Fatalf("P8.2: Tick %d = %v", n, l)
		}
	}
}

// TestNoSuchTimer starts and stops numbers of which there is no timer, with none that runs and with all.
func TestNoSuchTimer(t *testing.T) {
	var empty, full timer.Bank
	c := newClock()
	for i := range many {
		full.Start(i, 3+i)
		c.start(i, 3+i)
	}
	before := full
	for _, i := range none {
		for _, ticks := range []int{math.MinInt, -1, 0, 1, 5, most, math.MaxInt} {
			empty.Start(i, ticks)
			full.Start(i, ticks)
		}
		empty.Stop(i)
		full.Stop(i)
		check(t, &empty, newClock())
		check(t, &full, c)
	}
	if empty != (timer.Bank{}) || full != before {
		t.Errorf("P8.1: a number of which there is no timer changes a Bank")
	}
}

// TestStartedAnew is that a timer that runs has just the ticks it was started with last.
func TestStartedAnew(t *testing.T) {
	for _, i := range all {
		for _, first := range []int{1, 3, 8} {
			for _, second := range []int{0, 1, 3, 8} {
				for between := range first + 2 {
					var b timer.Bank
					c := newClock()
					b.Start(i, first)
					c.start(i, first)
					for range between {
						tick(t, &b, c)
					}
					b.Start(i, second)
					c.start(i, second)
					check(t, &b, c)
					for range first + second + 2 {
						tick(t, &b, c)
						check(t, &b, c)
					}
				}
			}
		}
	}
}

// TestStopped is that a timer that is stopped is never over, and that the others go on.
func TestStopped(t *testing.T) {
	for _, i := range all {
		for at := range 8 {
			var b timer.Bank
			c := newClock()
			for _, other := range all {
				b.Start(other, 2+other)
				c.start(other, 2+other)
			}
			for range at {
				tick(t, &b, c)
			}
			for range 2 { // stopped again, it stands
				b.Stop(i)
				delete(c.over, i)
				check(t, &b, c)
			}
			for range 10 {
				tick(t, &b, c)
				check(t, &b, c)
			}
			b.Start(i, 2)
			if l := append(b.Tick(), b.Tick()...); !slices.Equal(l, []int{i}) {
				t.Errorf("P8.2: timer %d, stopped and started: %v", i, l)
			}
		}
	}
}

// TestOverAtOnce has any of the timers over at one tick, whichever was started first.
func TestOverAtOnce(t *testing.T) {
	for set := range 1 << many {
		for _, back := range []bool{false, true} {
			var b timer.Bank
			var want []int
			for n := range many {
				i := n
				if back {
					i = many - 1 - n
				}
				if set>>i&1 == 1 {
					b.Start(i, 3)
					want = append(want, i)
				} else {
					b.Start(i, 5)
				}
			}
			slices.Sort(want)
			b.Tick()
			b.Tick()
			if l := b.Tick(); !slices.Equal(l, want) {
				t.Errorf("P8.2: Tick = %v, want %v", l, want)
			}
			if b.Tick() != nil || len(b.Tick()) != many-len(want) {
				t.Errorf("P8.2: the others aren't over at their tick")
			}
		}
	}
}

func TestNext(t *testing.T) {
	var b timer.Bank
	next := func(want int, wantRuns bool) {
		t.Helper()
		if n, runs := b.Next(); n != want || runs != wantRuns {
			t.Errorf("P8.1: Next = %d, %v, want %d, %v", n, runs, want, wantRuns)
		}
	}
	next(0, false)
	b.Start(timer.Keep, 9)
	next(9, true)
	b.Start(timer.Idle, 4)
	next(4, true)
	b.Start(timer.CC, 6)
	next(4, true)
	b.Start(timer.Poll, 4)
	next(4, true)
	b.Tick()
	next(3, true)
	b.Stop(timer.Idle)
	next(3, true)
	b.Stop(timer.Poll)
	next(5, true)
	b.Stop(timer.CC)
	next(8, true)
	b.Start(timer.Keep, 0)
	next(1, true)
	b.Tick()
	next(0, false)
}

// TestNextIsWhenOneIsOver goes on by Next: at that tick, and not ahead of it, there is one that is over.
func TestNextIsWhenOneIsOver(t *testing.T) {
	random := rand.New(rand.NewSource(3))
	for range 2000 {
		var b timer.Bank
		for range random.Intn(8) {
			b.Start(random.Intn(many), random.Intn(30))
		}
		for range many { // at most so many times there is one that is over
			n, runs := b.Next()
			if !runs {
				break
			}
			for range n - 1 {
				if l := b.Tick(); l != nil {
					t.Fatalf("P8.1: %v are over ahead of Next", l)
				}
			}
			if l := b.Tick(); len(l) == 0 {
				t.Fatalf("P8.1: none is over at Next")
			}
		}
		if b != (timer.Bank{}) {
			t.Fatalf("P8.1: one runs, but Next tells of none")
		}
	}
}

func TestClear(t *testing.T) {
	var b timer.Bank
	for range 2 {
		for i := range many {
			b.Start(i, i)
		}
		b.Clear()
		check(t, &b, newClock())
		for range 6 {
			if l := b.Tick(); l != nil {
				t.Errorf("P8.1: Tick behind Clear = %v", l)
			}
		}
	}
	b.Start(timer.Silent, 2)
	if l := append(b.Tick(), b.Tick()...); !slices.Equal(l, []int{timer.Silent}) {
		t.Errorf("P8.2: a timer that is started behind Clear: %v", l)
	}
}

// TestCopyGoesItsOwnWay is that a Bank is a plain value.
func TestCopyGoesItsOwnWay(t *testing.T) {
	var b timer.Bank
	c := newClock()
	for i := range many {
		b.Start(i, 4+i)
		c.start(i, 4+i)
	}
	tick(t, &b, c)
	other, otherClock := b, c.clone()
	check(t, &other, otherClock)
	for range 4 {
		tick(t, &other, otherClock)
	}
	other.Stop(timer.Silent)
	delete(otherClock.over, timer.Silent)
	check(t, &b, c)
	b.Start(timer.CC, 50)
	c.start(timer.CC, 50)
	b.Stop(timer.Idle)
	delete(c.over, timer.Idle)
	check(t, &other, otherClock)
	other.Clear()
	check(t, &b, c)
	for range 60 {
		tick(t, &b, c)
		check(t, &b, c)
	}
	check(t, &other, newClock())
}

// TestAnswersAreNew is rule 5: what Tick answers is written over, to its last spare place.
func TestAnswersAreNew(t *testing.T) {
	var b timer.Bank
	var last []int
	for n := range 5 {
		b.Start(timer.Poll, 1)
		b.Start(timer.Idle, 1)
		b.Start(timer.Keep, 9)
		l := b.Tick()
		if !slices.Equal(l, []int{timer.Poll, timer.Idle}) || b.Left(timer.Keep) != 8 || b.Runs(timer.Poll) || b.Runs(timer.Idle) {
			t.Fatalf("P8.1: Tick hangs on what was answered: %v", l)
		}
		for i := range last {
			if last[i] != n+98 {
				t.Fatalf("P8.1: two answers share memory")
			}
		}
		last = l[:cap(l)]
		for i := range last {
			last[i] = n + 99
		}
	}
}

// TestAnyCalls holds a Bank next to a clock, behind any calls.
func TestAnyCalls(t *testing.T) {
	random := rand.New(rand.NewSource(8))
	number := func() int {
		if random.Intn(8) == 0 {
			return none[random.Intn(len(none))]
		}
		return random.Intn(many)
	}
	ticks := []int{math.MinInt, -7, -1, 0, 1, 1, 2, 2, 3, 4, 5, 6, 9, 14, most - 1, most, most + 1, math.MaxInt}
	for range 400 {
		var b timer.Bank
		c := newClock()
		for range 200 {
			switch random.Intn(12) {
			case 0, 1, 2, 3:
				i, n := number(), ticks[random.Intn(len(ticks))]
				b.Start(i, n)
				c.start(i, n)
			case 4, 5:
				i := number()
				b.Stop(i)
				delete(c.over, i)
			case 6:
				if random.Intn(10) == 0 {
					b.Clear()
					clear(c.over)
				}
			default:
				tick(t, &b, c)
			}
			check(t, &b, c)
		}
	}
}
