package conn_test

import (
	"fmt"
	"math"
	"math/rand"
	"strings"
	"testing"

	"polliwog/api"
	"polliwog/conn"
	"polliwog/event"
	"polliwog/pdu"
	"polliwog/rules"
	"polliwog/seq"
)

const top = 1<<24 - 1

// both is a connection and its model, which are asked the same.
type both struct {
	t *testing.T
	c *conn.Conn
	m *model
}

func start(t *testing.T, most int, credit seq.Num) both {
	c, m := made(most, credit)
	if c.Vars() != m.vars() {
		t.Fatalf("P14.1: New of %d, %d: %+v", most, credit, c.Vars())
	}
	return both{t, c, m}
}

func (b both) clone() both { return both{b.t, b.c.Clone(), b.m.clone()} }

func (b both) request(kind int, data string) (conn.Result, api.Errno) {
	b.t.Helper()
	before := b.c.Vars()
	got, err := b.c.Request(kind, data)
	want, wantErr := b.m.request(kind, data)
	what := fmt.Sprintf("request %d of %d bytes in %s", kind, len(data), rules.Name(before.State))
	if err != wantErr {
		b.t.Fatalf("P14.1: %s: %d, want %d", what, err, wantErr)
	}
	check(b.t, what, b.c, b.m, got, want)
	if err != api.OK && b.c.Vars() != before {
		b.t.Fatalf("P14.2: %s is refused, and changes %+v to %+v", what, before, b.c.Vars())
	}
	return got, err
}

func (b both) receive(p pdu.PDU) conn.Result {
	b.t.Helper()
	before := b.c.Vars()
	got := b.c.Receive(p)
	what := fmt.Sprintf("%+v in %s at %+v", p, rules.Name(before.State), before)
	check(b.t, what, b.c, b.m, got, b.m.receive(p))
	if rules.Of(before.State, p.Kind) == rules.Ignore && (b.c.Vars() != before || !same(got, conn.Result{})) {
		b.t.Fatalf("P14.2: %s isn't ignored: %+v", what, got)
	}
	return got
}

func (b both) expire() conn.Result {
	b.t.Helper()
	before := b.c.Vars()
	got := b.c.Expire()
	check(b.t, fmt.Sprintf("Expire at %+v", before), b.c, b.m, got, b.m.expire())
	return got
}

func (b both) fail(code byte) conn.Result {
	b.t.Helper()
	before := b.c.Vars()
	got := b.c.Fail(code)
	check(b.t, fmt.Sprintf("Fail at %+v", before), b.c, b.m, got, b.m.fail(code))
	return got
}

func (b both) silent() conn.Result {
	b.t.Helper()
	before := b.c.Vars()
	got := b.c.Silent()
	check(b.t, fmt.Sprintf("Silent at %+v", before), b.c, b.m, got, b.m.silent())
	return got
}

// heard is that a unit of a kind comes that is new.
func (b both) heard(kind int) {
	b.t.Helper()
	b.receive(pdu.PDU{Kind: kind, SQ: (b.c.Vars().Peer + 1) % 256, N: 77})
}

// fits is that an answer of a kind comes that fits.
func (b both) fits(kind int) {
	b.t.Helper()
	p := pdu.PDU{Kind: kind, SQ: b.c.Vars().SQ}
	if kind != pdu.ENDAK && kind != pdu.BGREJ {
		p.N = 88
	}
	b.receive(p)
}

// ways are how each state is come to from Idle.
var ways = map[int][]func(b both){
	rules.Idle:     {func(b both) {}, func(b both) { b.heard(pdu.BGN); b.request(event.Release, "no") }},
	rules.Outgoing: {func(b both) { b.request(event.Establish, "hello") }},
	rules.Incoming: {
		func(b both) { b.heard(pdu.BGN) },
		func(b both) { b.request(event.Establish, ""); b.fits(pdu.BGAK); b.heard(pdu.BGN) },
	},
	rules.Leaving: {
		func(b both) { b.request(event.Establish, ""); b.request(event.Release, "bye") },
		func(b both) { b.heard(pdu.BGN); b.request(event.Accept, ""); b.request(event.Release, "bye") },
	},
	rules.Resyncing: {
		func(b both) { b.request(event.Establish, ""); b.fits(pdu.BGAK); b.request(event.Resync, "re") },
		func(b both) { b.heard(pdu.BGN); b.request(event.Accept, ""); b.request(event.Resync, "re") },
	},
	rules.Resynced: {
		func(b both) { b.request(event.Establish, "est"); b.fits(pdu.BGAK); b.heard(pdu.RS) },
		func(b both) { b.heard(pdu.BGN); b.request(event.Accept, ""); b.heard(pdu.RS) },
	},
	rules.Recovering: {
		func(b both) { b.request(event.Establish, "est"); b.fits(pdu.BGAK); b.fail('Q') },
		func(b both) { b.heard(pdu.BGN); b.request(event.Accept, ""); b.fail('T') },
	},
	rules.Answered: {
		func(b both) { b.request(event.Establish, ""); b.fits(pdu.BGAK); b.fail('Q'); b.fits(pdu.ERAK) },
		func(b both) { b.request(event.Establish, ""); b.fits(pdu.BGAK); b.fail('Q'); b.heard(pdu.ER) },
	},
	rules.Recovered: {
		func(b both) { b.request(event.Establish, ""); b.fits(pdu.BGAK); b.heard(pdu.ER) },
		func(b both) { b.heard(pdu.BGN); b.request(event.Accept, ""); b.heard(pdu.ER) },
	},
	rules.Ready: {
		func(b both) { b.request(event.Establish, ""); b.fits(pdu.BGAK) },
		func(b both) { b.request(event.Establish, ""); b.heard(pdu.BGN) },
		func(b both) { b.heard(pdu.BGN); b.request(event.Accept, "") },
	},
}

// each goes each way to each state, and hands in what it has come to.
func each(t *testing.T, do func(state int, b both)) {
	t.Helper()
	for state := rules.Idle; state <= rules.Ready; state++ {
		if len(ways[state]) == 0 {
			t.Fatalf("no way to state %d", state)
		}
		for _, way := range ways[state] {
			b := start(t, 3, top)
			way(b)
			if got := b.c.Vars().State; got != state {
				t.Fatalf("P14.1: state %d, want %d", got, state)
			}
			do(state, b)
		}
	}
}

// TestExample is the document's example.
func TestExample(t *testing.T) {
	b := start(t, 4, 9)
	r, err := b.request(event.Establish, "a")
	if err != api.OK || len(r.Units) != 1 || r.Units[0].Kind != pdu.BGN || r.Units[0].SQ != 1 || r.Units[0].N != 9 || r.Timer != conn.Starts {
		t.Fatalf("P14.1: %+v, %d", r, err)
	}
	if r := b.receive(pdu.PDU{Kind: pdu.BGAK, SQ: 2, N: 5}); r.Begins {
		t.Fatalf("P14.1: %+v", r)
	}
	if r := b.receive(pdu.PDU{Kind: pdu.BGAK, SQ: 1, N: 5}); !r.Begins || r.MS != 5 || r.Timer != conn.Stops {
		t.Fatalf("P14.1: %+v", r)
	}
}

// TestNumbers has what the timer does as the document counts it, and a new one's numbers.
func TestNumbers(t *testing.T) {
	if conn.Stays != 0 || conn.Starts != 1 || conn.Stops != 2 {
		t.Errorf("P14.1: %d, %d, %d", conn.Stays, conn.Starts, conn.Stops)
	}
	if v := conn.New(conn.Config{Most: 4, Credit: top}).Vars(); v != (conn.Vars{State: rules.Idle, Peer: -1, MS: top}) {
		t.Errorf("P14.1: %+v", v)
	}
}

// some are the data that units of a kind may have.
func some(kind int) []string {
	switch kind {
	case pdu.BGN, pdu.RS, pdu.BGREJ, pdu.END, pdu.SD, pdu.UD, pdu.MD:
		return []string{"", "d", strings.Repeat("m", 64)}
	}
	return []string{""}
}

// units are such of a kind as may come: with an old SQ, one that fits, and others.
func units(kind int, v conn.Vars) []pdu.PDU {
	var l []pdu.PDU
	for _, sq := range []int{0, 1, 2, 254, 255, v.SQ, max(v.Peer, 0), (v.SQ + 1) % 256, (v.Peer + 1) % 256} {
		for _, n := range []seq.Num{0, 31, top} {
			for _, data := range some(kind) {
				for _, self := range []bool{false, true} {
					p := pdu.PDU{Kind: kind, SQ: sq, N: n, Data: data, Self: self}
					if kind == pdu.USTAT {
						p.List = []seq.Num{1, 2}
					}
					if p.Check() == api.OK {
						l = append(l, p)
					}
				}
			}
		}
	}
	return l
}

// TestEachUnitInEachState has units of each kind come in each state.
func TestEachUnitInEachState(t *testing.T) {
	each(t, func(state int, b both) {
		for kind := pdu.BGN; kind <= pdu.ERAK; kind++ {
			l := units(kind, b.c.Vars())
			if len(l) == 0 {
				t.Fatalf("no units of kind %d", kind)
			}
			for _, p := range l {
				one := b.clone()
				one.receive(p)
				// And once more: now it's old, or fits no more.
				one.receive(p)
				if p.N > 0 {
					p.N--
				}
				one.receive(p)
			}
		}
		for _, kind := range []int{-1, 0, 16, 17, 1 << 20, math.MinInt, math.MaxInt} {
			b.clone().receive(pdu.PDU{Kind: kind, SQ: b.c.Vars().SQ})
		}
	})
}

// TestEachRequestInEachState makes each request in each state, with data of any length.
func TestEachRequestInEachState(t *testing.T) {
	each(t, func(state int, b both) {
		for _, kind := range []int{math.MinInt, -1, 0, 1, 2, 3, 4, 5, 6, 7, 8, 9, 10, 11, 12, 100, math.MaxInt} {
			for _, size := range []int{0, 1, 63, 64, 65, 200, 5000} {
				one := b.clone()
				one.request(kind, strings.Repeat("z", size))
				one.expire()
				one.request(kind, "again")
			}
		}
	})
}

// TestWhatIsRefused has the errors in their order.
func TestWhatIsRefused(t *testing.T) {
	big := strings.Repeat("b", 65)
	b := start(t, 2, 5)
	for _, x := range []struct {
		kind int
		data string
		want api.Errno
	}{
		{0, big, api.ErrKind}, {event.Data, big, api.ErrKind}, {event.Retrieve, "", api.ErrKind}, {event.Unit, "", api.ErrKind},
		{event.Establish, big, api.ErrBig}, {event.Release, big, api.ErrBig}, {event.Resync, big, api.ErrBig},
		{event.Accept, big, api.ErrState}, {event.Resynced, big, api.ErrState}, {event.Recovered, big, api.ErrState},
		{event.Release, "", api.ErrState}, {event.Resync, big[:64], api.ErrState}, {event.Establish, big[:64], api.OK},
		{event.Establish, "", api.ErrState}, {event.Establish, big, api.ErrBig},
	} {
		if _, err := b.request(x.kind, x.data); err != x.want {
			t.Errorf("P14.1: request %d of %d bytes: %d, want %d", x.kind, len(x.data), err, x.want)
		}
	}
	b = start(t, 2, 5)
	b.heard(pdu.BGN)
	if _, err := b.request(event.Accept, big); err != api.OK {
		t.Errorf("P14.1: data of Accept count: %d", err)
	}
}

// TestExpire has a unit go out as often as may be, alike each time.
func TestExpire(t *testing.T) {
	for _, most := range []int{math.MinInt, -1, 0, 1, 2, 3, 15, 16, 17, 1000, math.MaxInt} {
		times := min(max(most, 1), 16)
		for _, state := range []int{rules.Outgoing, rules.Leaving, rules.Resyncing, rules.Recovering} {
			for _, way := range ways[state] {
				b := start(t, most, 123)
				way(b)
				for i := 1; i < times; i++ {
					r := b.expire()
					if len(r.Units) != 1 || r.Units[0].Self || r.Timer != conn.Starts || b.c.Vars().CC != i+1 || r.Signals != nil {
						t.Fatalf("P14.1: Expire %d of %d in state %d: %+v", i, times, state, r)
					}
				}
				r := b.expire()
				if b.c.Vars().State != rules.Idle || r.Timer != conn.Stops || len(r.Signals) != 2 || r.Signals[0].Code != 'O' {
					t.Fatalf("P14.1: Expire behind %d in state %d: %+v", times, state, r)
				}
				b.expire()
			}
		}
	}
	each(t, func(state int, b both) {
		for range 5 {
			b.expire()
		}
	})
}

// TestWhatGoesAgainIsAlike holds the unit that goes again against the first one.
func TestWhatGoesAgainIsAlike(t *testing.T) {
	for _, kind := range []int{event.Establish, event.Release, event.Resync} {
		b := start(t, 5, 200)
		if kind != event.Establish {
			ways[rules.Ready][0](b)
		}
		first, _ := b.request(kind, "the data")
		for range 4 {
			if again := b.expire(); len(again.Units) != 1 || !sameUnit(again.Units[0], first.Units[0]) {
				t.Errorf("P14.1: %+v goes again for %+v", again.Units, first.Units)
			}
		}
	}
	b := start(t, 5, 200)
	ways[rules.Resyncing][0](b)
	b.fits(pdu.RSAK)
	first := b.fail('S')
	if again := b.expire(); len(again.Units) != 1 || !sameUnit(again.Units[0], first.Units[0]) {
		t.Errorf("P14.1: %+v goes again for %+v", again.Units, first.Units)
	}
}

// TestFailAndSilent are asked for in each state, with any code.
func TestFailAndSilent(t *testing.T) {
	each(t, func(state int, b both) {
		for _, code := range []byte{'Q', 'R', 'S', 'T', 'V', 0, 255} {
			one := b.clone()
			r := one.fail(code)
			if told := state == rules.Ready; told != (len(r.Signals) == 1) || told && (r.Signals[0].Code != code || !r.Ends) {
				t.Errorf("P14.1: Fail in state %d: %+v", state, r)
			}
			one.expire()
		}
		one := b.clone()
		r := one.silent()
		if told := state == rules.Ready; told != (len(r.Signals) == 2) || told && (!r.Ends || r.Timer != conn.Stays || !r.Units[0].Self) {
			t.Errorf("P14.1: Silent in state %d: %+v", state, r)
		}
		one.expire()
	})
}

// TestSQGoesRound has more of them than there are.
func TestSQGoesRound(t *testing.T) {
	b := start(t, 1, 6)
	for i := range 600 {
		r, _ := b.request(event.Establish, "")
		if want := (i + 1) % 256; len(r.Units) != 1 || r.Units[0].SQ != want || b.c.Vars().SQ != want {
			t.Fatalf("P14.3: BGN %d is %+v", i, r.Units)
		}
		b.expire()
	}
}

// TestEpochFromLeaving is that one begins anew while an END is out.
func TestEpochFromLeaving(t *testing.T) {
	for _, way := range ways[rules.Leaving] {
		b := start(t, 9, 6)
		way(b)
		r, err := b.request(event.Establish, "x")
		if err != api.OK || len(r.Units) != 1 || r.Units[0].Kind != pdu.BGN || r.Timer != conn.Starts || r.Ends {
			t.Errorf("P14.1: %+v, %d", r, err)
		}
		b.expire()
		b.fits(pdu.BGAK)
		if b.c.Vars().State != rules.Ready {
			t.Errorf("P14.1: %+v", b.c.Vars())
		}
	}
}

// drawn is a unit as it may come at v, at times one of a wrong kind.
func drawn(r *rand.Rand, v conn.Vars) pdu.PDU {
	kinds := []int{pdu.BGN, pdu.BGAK, pdu.BGAK, pdu.END, pdu.ENDAK, pdu.RS, pdu.RSAK, pdu.BGREJ, pdu.ER, pdu.ERAK, pdu.ERAK, r.Intn(16) + 1}
	l := units(kinds[r.Intn(len(kinds))], v)
	if len(l) == 0 {
		return pdu.PDU{Kind: r.Intn(40) - 20}
	}
	return l[r.Intn(len(l))]
}

// step does a drawn thing.
func step(r *rand.Rand, b both) conn.Result {
	b.t.Helper()
	v := b.c.Vars()
	switch r.Intn(10) {
	case 0, 1, 2, 3:
		got, _ := b.request(r.Intn(8), strings.Repeat("q", r.Intn(68)))
		return got
	case 4:
		return b.expire()
	case 5:
		if r.Intn(3) == 0 {
			return b.fail(byte(r.Intn(256)))
		}
	case 6:
		if r.Intn(4) == 0 {
			return b.silent()
		}
	}
	return b.receive(drawn(r, v))
}

// TestAnyCalls does what a fixed draw says, and holds the connection against
// the model; an epoch begins only behind the end of the one ahead.
func TestAnyCalls(t *testing.T) {
	for seed := range 200 {
		r := rand.New(rand.NewSource(int64(seed)))
		b := start(t, r.Intn(5), seq.Num(r.Uint32()))
		epoch := false
		for range 500 {
			before, was := b.clone(), b.c.Vars()
			got := step(r, b)
			if before.c.Vars() != was {
				t.Fatalf("P14.1: the clone went with it")
			}
			v := b.c.Vars()
			if v.State < rules.Idle || v.State > rules.Ready || v.SQ < 0 || v.SQ > 255 {
				t.Fatalf("P14.3: %+v", v)
			}
			if got.Ends && !epoch || got.Begins && epoch && !got.Ends || !got.Begins && got.MS != 0 {
				t.Fatalf("P14.3: in an epoch: %v, and %+v", epoch, got)
			}
			epoch = epoch && !got.Ends || got.Begins
			if epoch != (v.State == rules.Ready) {
				t.Fatalf("P14.3: in an epoch: %v, at %+v", epoch, v)
			}
		}
	}
}

// pair is two connections that hear one another, in order, each unit once.
type pair struct {
	t    *testing.T
	r    *rand.Rand
	ends [2]*conn.Conn
	ways [2][]pdu.PDU // to each end
}

// brought has an end's units go to the other one, and its user answer what is told.
func (p *pair) brought(end int, got conn.Result) {
	p.ways[1-end] = append(p.ways[1-end], got.Units...)
	for _, s := range got.Signals {
		var err api.Errno
		var more conn.Result
		switch c := p.ends[end]; s.Kind {
		case event.EstablishInd:
			more, err = c.Request(event.Accept, "")
		case event.ResyncInd:
			more, err = c.Request(event.Resynced, "")
		case event.RecoverInd:
			more, err = c.Request(event.Recovered, "")
		}
		if err != api.OK {
			p.t.Fatalf("P14.4: signal %+v at %+v: %d", s, p.ends[end].Vars(), err)
		}
		p.brought(end, more)
	}
}

// some has a few units come; all: as long as there are any.
func (p *pair) some(n int, all bool) {
	p.t.Helper()
	for i := 0; i < n || all; i++ {
		end := p.r.Intn(2)
		if len(p.ways[end]) == 0 {
			end = 1 - end
		}
		if len(p.ways[end]) == 0 {
			return
		}
		if i > 1000 {
			p.t.Fatalf("P14.4: no end of units")
		}
		u := p.ways[end][0]
		p.ways[end] = p.ways[end][1:]
		p.brought(end, p.ends[end].Receive(u))
	}
}

// ask has one or both ends ask, if they may; a few units come between.
func (p *pair) ask(kind int, ends ...int) {
	for _, end := range ends {
		if got, err := p.ends[end].Request(kind, ""); err == api.OK {
			p.brought(end, got)
		}
		p.some(p.r.Intn(3), false)
	}
}

// fail has one or both ends fail.
func (p *pair) fail(ends ...int) {
	for _, end := range ends {
		p.brought(end, p.ends[end].Fail('Q'))
		p.some(p.r.Intn(3), false)
	}
}

// both tells whether both ends are in a state.
func (p *pair) both(state int) bool {
	return p.ends[0].Vars().State == state && p.ends[1].Vars().State == state
}

// TestTwoEnds come to be Ready both, and to Idle both, over and over.
func TestTwoEnds(t *testing.T) {
	choices := [][]int{{0}, {1}, {0, 1}, {1, 0}}
	for seed := range 40 {
		r := rand.New(rand.NewSource(int64(seed)))
		p := &pair{t: t, r: r}
		for i := range p.ends {
			p.ends[i] = conn.New(conn.Config{Most: 1, Credit: seq.Num(i)})
		}
		for round := range 100 {
			p.ask(event.Establish, choices[r.Intn(4)]...)
			p.some(0, true)
			if !p.both(rules.Ready) {
				t.Fatalf("P14.4: round %d: %+v, %+v behind Establish", round, p.ends[0].Vars(), p.ends[1].Vars())
			}
			for range r.Intn(4) {
				end := r.Intn(2)
				switch r.Intn(4) {
				case 0:
					p.ask(event.Resync, choices[r.Intn(4)]...)
				case 1:
					p.fail(choices[r.Intn(4)]...)
				case 2:
					p.fail(end)
					p.ask(event.Resync, 1-end)
				case 3:
					p.ask(event.Resync, end)
					p.fail(1 - end)
				}
				p.some(0, true)
				if !p.both(rules.Ready) {
					t.Fatalf("P14.4: round %d: %+v, %+v", round, p.ends[0].Vars(), p.ends[1].Vars())
				}
			}
			if end := r.Intn(2); r.Intn(4) == 0 {
				p.brought(end, p.ends[end].Silent())
			} else {
				p.ask(event.Release, choices[r.Intn(4)]...)
			}
			p.some(0, true)
			if !p.both(rules.Idle) {
				t.Fatalf("P14.4: round %d: %+v, %+v behind Release", round, p.ends[0].Vars(), p.ends[1].Vars())
			}
		}
	}
}

// TestOneRefuses has both in Idle behind a BGREJ.
func TestOneRefuses(t *testing.T) {
	a, b := conn.New(conn.Config{Most: 2}), conn.New(conn.Config{Most: 2})
	for range 300 {
		asked, _ := a.Request(event.Establish, "")
		if heard := b.Receive(asked.Units[0]); len(heard.Signals) != 1 || heard.Signals[0].Kind != event.EstablishInd {
			t.Fatalf("P14.4: %+v", heard)
		}
		no, _ := b.Request(event.Release, "no")
		got := a.Receive(no.Units[0])
		if len(got.Signals) != 1 || got.Signals[0] != (event.Signal{Kind: event.ReleaseInd, Data: "no"}) || a.Vars().State != rules.Idle || b.Vars().State != rules.Idle {
			t.Fatalf("P14.4: %+v", got)
		}
	}
}

// TestCloneGoesItsOwnWay does unlike things to a connection and its clone.
func TestCloneGoesItsOwnWay(t *testing.T) {
	for seed := range 50 {
		r := rand.New(rand.NewSource(int64(seed)))
		b := start(t, 3, 4)
		for range 60 {
			step(r, b)
		}
		c := b.clone()
		for range 60 {
			step(r, b)
			step(r, c)
		}
	}
}

// TestAnswersAreNew is rule 5: what is answered is written over, to its last spare place.
func TestAnswersAreNew(t *testing.T) {
	for seed := range 50 {
		r := rand.New(rand.NewSource(int64(seed)))
		b := start(t, 3, 4)
		for range 200 {
			got := step(r, b)
			for i := range got.Signals[:cap(got.Signals)] {
				got.Signals[:cap(got.Signals)][i] = event.Signal{Kind: 99}
			}
			for i := range got.Units[:cap(got.Units)] {
				got.Units[:cap(got.Units)][i] = pdu.PDU{Kind: 99, SQ: 99}
			}
		}
	}
}

// TestEachCallAnswers is P1: any values of the arguments' types, also units that may not be.
func TestEachCallAnswers(t *testing.T) {
	r := rand.New(rand.NewSource(1))
	for range 200 {
		c := conn.New(conn.Config{Most: int(r.Uint64()), Credit: seq.Num(r.Uint32())})
		for range 200 {
			p := pdu.PDU{Kind: r.Intn(20) - 2, SQ: int(r.Uint64()), N: seq.Num(r.Uint32()), List: []seq.Num{1}, Data: strings.Repeat("d", r.Intn(300))}
			if r.Intn(2) == 0 {
				p.SQ = c.Vars().SQ
			}
			c.Receive(p)
			c.Request(int(r.Uint64())%9, strings.Repeat("d", r.Intn(100)))
			c.Expire()
			c.Fail(byte(r.Intn(256)))
			if r.Intn(9) == 0 {
				c.Silent()
			}
			if v := c.Clone().Vars(); v.State < rules.Idle || v.State > rules.Ready || v.SQ < 0 || v.SQ > 255 {
				t.Fatalf("P14.3: %+v", v)
			}
		}
	}
}
