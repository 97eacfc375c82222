package pace_test

import (
	"fmt"
	"math"
	"math/rand"
	"slices"
	"testing"

	"polliwog/api"
	"polliwog/pace"
	"polliwog/timer"
)

const most = 1 << 20

// plain are ticks that differ from one another.
var plain = pace.Config{CC: 3, Poll: 2, Keep: 5, Silent: 9, Idle: 4}

// ends are numbers of timers, and of none.
var ends = []int{math.MinInt, math.MinInt32, -5, -1, 0, 1, 2, 3, 4, 5, 6, 255, 256, 1<<32 + 1, math.MaxInt}

// model is the timers that run, by how many ticks they have left; what is done
// with them is as the document tells it.
type model struct {
	c    pace.Config
	left map[int]int
}

func (m *model) ticks(t int) int {
	return map[int]int{timer.CC: m.c.CC, timer.Poll: m.c.Poll, timer.Keep: m.c.Keep, timer.Silent: m.c.Silent, timer.Idle: m.c.Idle}[t]
}

func (m *model) runs(t int) bool { return m.left[t] > 0 }

func (m *model) start(t int) { m.left[t] = m.ticks(t) }

func (m *model) stop(t int) { delete(m.left, t) }

// silent starts Silent, if it doesn't run.
func (m *model) silent() {
	if !m.runs(timer.Silent) {
		m.start(timer.Silent)
	}
}

func (m *model) begin() {
	m.start(timer.Poll)
	m.start(timer.Silent)
	m.stop(timer.Keep)
	m.stop(timer.Idle)
}

func (m *model) end() {
	cc, runs := m.left[timer.CC]
	clear(m.left)
	if runs {
		m.left[timer.CC] = cc
	}
}

func (m *model) busy() {
	if m.runs(timer.Keep) || m.runs(timer.Idle) {
		m.stop(timer.Keep)
		m.stop(timer.Idle)
		m.start(timer.Poll)
		m.silent()
	}
}

func (m *model) polled(idle bool) {
	for _, t := range []int{timer.Poll, timer.Keep, timer.Idle} {
		m.stop(t)
	}
	m.start(map[bool]int{true: timer.Keep, false: timer.Poll}[idle])
	m.silent()
}

func (m *model) answered(idle bool) {
	if idle && m.runs(timer.Keep) {
		m.stop(timer.Keep)
		m.stop(timer.Silent)
		m.start(timer.Idle)
	} else if !m.runs(timer.Idle) {
		m.start(timer.Silent)
	}
}

func (m *model) tick() []int {
	var over []int
	for t := range 5 {
		if m.left[t]--; m.left[t] == 0 {
			over = append(over, t)
		}
		if m.left[t] <= 0 {
			m.stop(t)
		}
	}
	return over
}

func (m *model) safe() bool {
	silent, runs := m.left[timer.Silent]
	for _, t := range []int{timer.Poll, timer.Keep} {
		if m.runs(t) && m.left[t] < silent {
			return true
		}
	}
	return !runs
}

// both is a pace and its model, which are asked the same.
type both struct {
	t *testing.T
	p *pace.Pace
	m *model
}

func start(t *testing.T, c pace.Config) both {
	t.Helper()
	p, err := pace.New(c)
	if err != api.OK || p == nil {
		t.Fatalf("P15.1: New(%+v) = %d", c, err)
	}
	b := both{t, p, &model{c, map[int]int{}}}
	b.check("New")
	return b
}

func (b both) clone() both {
	m := &model{b.m.c, map[int]int{}}
	for t, left := range b.m.left {
		m.left[t] = left
	}
	return both{b.t, b.p.Clone(), m}
}

// check asks all that changes nothing.
func (b both) check(behind string) {
	b.t.Helper()
	for _, t := range ends {
		if b.p.Left(t) != b.m.left[t] || b.p.Runs(t) != b.m.runs(t) {
			b.t.Fatalf("P15.1: behind %s timer %d has %d ticks left, runs: %v; want %v", behind, t, b.p.Left(t), b.p.Runs(t), b.m.left)
		}
	}
	if b.p.Safe() != b.m.safe() {
		b.t.Fatalf("P15.1: behind %s Safe is %v, at %v", behind, b.p.Safe(), b.m.left)
	}
}

// calls are those that change something, each of both.
var calls = []struct {
	name string
	do   func(b both)
}{
	{"Begin", func(b both) { b.p.Begin(); b.m.begin() }},
	{"End", func(b both) { b.p.End(); b.m.end() }},
	{"Again", func(b both) { b.p.Again(); b.m.start(timer.CC) }},
	{"Enough", func(b both) { b.p.Enough(); b.m.stop(timer.CC) }},
	{"Busy", func(b both) { b.p.Busy(); b.m.busy() }},
	{"Polled(true)", func(b both) { b.p.Polled(true); b.m.polled(true) }},
	{"Polled(false)", func(b both) { b.p.Polled(false); b.m.polled(false) }},
	{"Answered(true)", func(b both) { b.p.Answered(true); b.m.answered(true) }},
	{"Answered(false)", func(b both) { b.p.Answered(false); b.m.answered(false) }},
	{"Tick", func(b both) { b.tick() }},
}

// do makes the i-th call.
func (b both) do(i int) {
	b.t.Helper()
	calls[i].do(b)
	b.check(calls[i].name)
}

func (b both) tick() []int {
	b.t.Helper()
	got, want := b.p.Tick(), b.m.tick()
	if !slices.Equal(got, want) {
		b.t.Fatalf("P15.1: Tick = %v, want %v", got, want)
	}
	return got
}

// running are the timers that run.
func running(p *pace.Pace) []int {
	var l []int
	for t := range 5 {
		if p.Runs(t) {
			l = append(l, t)
		}
	}
	return l
}

// run looks which timers run.
func run(t *testing.T, p *pace.Pace, behind string, want ...int) {
	t.Helper()
	if got := running(p); !slices.Equal(got, want) {
		t.Errorf("P15.1: behind %s timers %v run, want %v", behind, got, want)
	}
}

// TestExample is the document's example.
func TestExample(t *testing.T) {
	p, err := pace.New(plain)
	if err != api.OK {
		t.Fatalf("P15.1: New = %d", err)
	}
	p.Begin()
	if l := p.Tick(); l != nil {
		t.Errorf("P15.1: the first Tick = %v", l)
	}
	if l := p.Tick(); !slices.Equal(l, []int{timer.Poll}) {
		t.Errorf("P15.1: the second Tick = %v", l)
	}
	p.Polled(true)
	p.Answered(true)
	run(t, p, "Answered", timer.Idle)
	if p.Left(timer.Idle) != 4 {
		t.Errorf("P15.1: Idle has %d ticks left", p.Left(timer.Idle))
	}
}

// TestPhases goes from each phase to each that may come behind it.
func TestPhases(t *testing.T) {
	p, _ := pace.New(plain)
	run(t, p, "New")
	p.Begin()
	run(t, p, "Begin", timer.Poll, timer.Silent)
	p.Polled(false)
	run(t, p, "Polled, active", timer.Poll, timer.Silent)
	p.Answered(true)
	run(t, p, "Answered, active", timer.Poll, timer.Silent)
	p.Polled(true)
	run(t, p, "Polled, with nothing outstanding", timer.Keep, timer.Silent)
	p.Answered(false)
	run(t, p, "Answered, with something outstanding", timer.Keep, timer.Silent)
	p.Busy()
	run(t, p, "Busy, transient", timer.Poll, timer.Silent)
	p.Polled(true)
	p.Answered(true)
	run(t, p, "Answered, transient", timer.Idle)
	p.Answered(true)
	p.Answered(false)
	run(t, p, "Answered, idle", timer.Idle)
	p.Busy()
	run(t, p, "Busy, idle", timer.Poll, timer.Silent)
	p.Polled(true)
	p.Answered(true)
	p.Polled(true)
	run(t, p, "Polled, idle", timer.Keep, timer.Silent)
	p.Answered(true)
	p.Polled(false)
	run(t, p, "Polled, idle no more", timer.Poll, timer.Silent)
	p.Again()
	p.End()
	run(t, p, "End", timer.CC)
	p.Begin()
	run(t, p, "Begin, with CC", timer.CC, timer.Poll, timer.Silent)
	p.Enough()
	run(t, p, "Enough", timer.Poll, timer.Silent)
}

// TestStartedAnew looks how many ticks are left where a timer runs already.
func TestStartedAnew(t *testing.T) {
	left := func(what string, p *pace.Pace, timer, want int) {
		t.Helper()
		if p.Left(timer) != want {
			t.Errorf("P15.1: %s: timer %d has %d ticks left, want %d", what, timer, p.Left(timer), want)
		}
	}
	p, _ := pace.New(plain)
	p.Begin()
	p.Tick()
	left("a tick", p, timer.Poll, 1)
	left("a tick", p, timer.Silent, 8)
	p.Polled(false)
	left("Polled", p, timer.Poll, 2)
	left("Polled", p, timer.Silent, 8)
	p.Busy() // it was so ahead: nothing
	p.Tick()
	p.Busy()
	left("Busy, active", p, timer.Poll, 1)
	left("Busy, active", p, timer.Silent, 7)
	p.Answered(false)
	left("Answered", p, timer.Poll, 1)
	left("Answered", p, timer.Silent, 9)
	p.Polled(true)
	p.Tick()
	p.Tick()
	left("Keep", p, timer.Keep, 3)
	p.Busy()
	left("Busy, transient", p, timer.Poll, 2)
	left("Busy, transient", p, timer.Silent, 7)
	p.Again()
	p.Tick()
	left("CC", p, timer.CC, 2)
	p.Again()
	left("Again", p, timer.CC, 3)
	p.Begin()
	left("Begin", p, timer.Poll, 2)
	left("Begin", p, timer.Silent, 9)
	p.Polled(true)
	p.Answered(true)
	p.Tick()
	p.Answered(true)
	left("Answered, idle", p, timer.Idle, 3)
	left("Answered, idle", p, timer.Silent, 0)
	p.Busy()
	left("Busy, idle", p, timer.Poll, 2)
	left("Busy, idle", p, timer.Silent, 9)
}

// TestCheck has each of the ticks at its edges.
func TestCheck(t *testing.T) {
	one := pace.Config{CC: 1, Poll: 1, Keep: 1, Silent: 2, Idle: 1}
	all := pace.Config{CC: most, Poll: most - 1, Keep: most - 1, Silent: most, Idle: most}
	with := func(c pace.Config, t, ticks int) pace.Config {
		*[]*int{&c.CC, &c.Poll, &c.Keep, &c.Silent, &c.Idle}[t] = ticks
		return c
	}
	fit := []pace.Config{one, all, plain, with(one, 3, most), with(one, 0, most), with(one, 4, most), with(all, 1, 1), with(all, 2, 1), with(all, 4, 1)}
	for _, c := range fit {
		if err := c.Check(); err != api.OK {
			t.Errorf("P15.1: Check of %+v = %d", c, err)
		}
		start(t, c)
	}
	unfit := []pace.Config{{}, with(one, 3, 1), with(plain, 1, 9), with(plain, 2, 9), with(plain, 1, 10), with(plain, 2, 10), with(plain, 3, 5), with(plain, 3, 2), with(all, 1, most), with(all, 2, most)}
	for timer := range 5 {
		for _, ticks := range []int{math.MinInt, math.MinInt32, -1, 0, most + 1, 1 << 32, 1<<32 + 1, 1<<32 + 2, math.MaxInt} {
			unfit = append(unfit, with(plain, timer, ticks), with(all, timer, ticks))
		}
	}
	for _, c := range unfit {
		p, err := pace.New(c)
		if c.Check() != api.ErrArg || err != api.ErrArg || p != nil {
			t.Errorf("P15.1: Check of %+v = %d, New = %v, %d", c, c.Check(), p, err)
		}
	}
}

// TestAsks has all timers, and numbers of none.
func TestAsks(t *testing.T) {
	p, _ := pace.New(plain)
	for range 2 {
		for _, i := range ends {
			if want := i == timer.Poll || i == timer.Keep || i == timer.Idle; p.Asks(i) != want {
				t.Errorf("P15.1: Asks(%d) = %v", i, p.Asks(i))
			}
		}
		p.Begin()
	}
}

// TestSafe has Silent run alone, and with Poll or Keep ahead of it, alike, and behind it.
func TestSafe(t *testing.T) {
	safe := func(what string, p *pace.Pace, want bool) {
		t.Helper()
		if p.Safe() != want {
			t.Errorf("P15.1: %s: Safe is %v", what, p.Safe())
		}
	}
	p, _ := pace.New(pace.Config{CC: 1, Poll: 8, Keep: 8, Silent: 9, Idle: 20})
	safe("New", p, true)
	p.Again()
	safe("CC alone", p, true)
	p.Begin()
	safe("Begin", p, true)
	for _, idle := range []bool{false, true} {
		p.Begin()
		p.Tick()
		p.Polled(idle)
		safe(fmt.Sprintf("Poll or Keep is over with Silent (%v)", idle), p, false)
		p.Tick()
		p.Polled(idle)
		safe(fmt.Sprintf("Poll or Keep is over behind Silent (%v)", idle), p, false)
		p.Answered(false)
		safe(fmt.Sprintf("Answered (%v)", idle), p, true)
	}
	p.Begin()
	for range 8 {
		p.Tick()
	}
	safe("Silent alone", p, false)
	p.Tick()
	safe("none", p, true)
	p.Polled(true)
	p.Answered(true)
	safe("Idle alone", p, true)
	p.End()
	safe("End", p, true)
}

// TestAnyCalls holds a pace against the model behind any calls.
func TestAnyCalls(t *testing.T) {
	for seed := range 300 {
		r := rand.New(rand.NewSource(int64(seed)))
		silent := 2 + r.Intn(12)
		b := start(t, pace.Config{CC: 1 + r.Intn(9), Poll: 1 + r.Intn(silent-1), Keep: 1 + r.Intn(silent-1), Silent: silent, Idle: 1 + r.Intn(15)})
		for range 300 {
			if r.Intn(2) == 0 {
				b.do(len(calls) - 1)
			} else {
				b.do(r.Intn(len(calls)))
			}
		}
	}
}

// TestEachPairOfCalls has each call behind each other, at each number of ticks.
func TestEachPairOfCalls(t *testing.T) {
	for first := range calls {
		for second := range calls {
			for third := range calls {
				b := start(t, plain)
				b.do(first)
				b.do(len(calls) - 1)
				b.do(second)
				b.do(third)
				for range 12 {
					b.do(len(calls) - 1)
				}
			}
		}
	}
}

// TestSilentIsNeverOver has, from any safe pace on, each poll go out that is
// due, and be answered at once.
func TestSilentIsNeverOver(t *testing.T) {
	found := 0
	for seed := range 600 {
		r := rand.New(rand.NewSource(int64(seed)))
		silent := 2 + r.Intn(9)
		b := start(t, pace.Config{CC: 1 + r.Intn(9), Poll: 1 + r.Intn(silent-1), Keep: 1 + r.Intn(silent-1), Silent: silent, Idle: 1 + r.Intn(20)})
		for range r.Intn(40) {
			b.do(r.Intn(len(calls)))
		}
		if !b.p.Safe() {
			continue
		}
		found++
		for range 400 {
			for _, i := range b.tick() {
				if i == timer.Silent {
					t.Fatalf("P15.2: Silent is over, from a safe pace on (seed %d)", seed)
				}
				if b.p.Asks(i) {
					b.p.Polled(r.Intn(2) == 0)
					b.p.Answered(r.Intn(2) == 0)
				}
			}
			if b.p.Runs(timer.Idle) && r.Intn(3) == 0 {
				b.p.Busy()
			}
			b = both{t, b.p, follow(b.p, b.m.c)}
			b.check("polls that are answered")
		}
	}
	if found < 100 {
		t.Fatalf("P15.2: %d safe paces alone", found)
	}
}

// follow is a model that is as a pace is.
func follow(p *pace.Pace, c pace.Config) *model {
	m := &model{c, map[int]int{}}
	for t := range 5 {
		if p.Runs(t) {
			m.left[t] = p.Left(t)
		}
	}
	return m
}

// TestSilentIsOver is that it comes to be so if polls aren't answered.
func TestSilentIsOver(t *testing.T) {
	for _, idle := range []bool{false, true} {
		p, _ := pace.New(plain)
		p.Begin()
		for n := 1; ; n++ {
			l := p.Tick()
			if slices.Contains(l, timer.Silent) != (n == plain.Silent) {
				t.Errorf("P15.1: Tick %d = %v", n, l)
			}
			if n >= plain.Silent {
				break
			}
			if slices.ContainsFunc(l, p.Asks) {
				p.Polled(idle)
			}
		}
	}
}

// TestCloneGoesItsOwnWay does unlike things to a pace and its clone.
func TestCloneGoesItsOwnWay(t *testing.T) {
	for seed := range 100 {
		r := rand.New(rand.NewSource(int64(seed)))
		b := start(t, plain)
		for range 20 {
			b.do(r.Intn(len(calls)))
		}
		c := b.clone()
		c.check("Clone")
		for range 60 {
			b.do(r.Intn(len(calls)))
			c.check("a call of the other one")
			c.do(r.Intn(len(calls)))
			b.check("a call of the clone")
		}
	}
}

// TestAnswersAreNew is rule 5: what Tick answers is written over, to its last spare place.
func TestAnswersAreNew(t *testing.T) {
	b := start(t, pace.Config{CC: 1, Poll: 1, Keep: 1, Silent: 2, Idle: 1})
	r := rand.New(rand.NewSource(1))
	for range 500 {
		b.do(r.Intn(len(calls)))
		l := b.tick()
		for i := range l[:cap(l)] {
			l[:cap(l)][i] = 77
		}
		b.check("a Tick that is written over")
	}
}

// TestEachCallAnswers is P1: any values of the arguments' types.
func TestEachCallAnswers(t *testing.T) {
	r := rand.New(rand.NewSource(1))
	for range 2000 {
		c := pace.Config{CC: int(r.Uint64()), Poll: int(r.Uint64()), Keep: int(r.Uint64()), Silent: int(r.Uint64()), Idle: int(r.Uint64())}
		if p, err := pace.New(c); err != c.Check() || p != nil {
			t.Fatalf("P15.1: New(%+v) = %v, %d", c, p, err)
		}
		p, _ := pace.New(plain)
		for range 5 {
			i := int(r.Uint64())
			if p.Left(i) != 0 || p.Runs(i) || p.Asks(i) {
				t.Fatalf("P15.1: timer %d", i)
			}
			p.Begin()
		}
	}
}
