package node_test

import (
	"fmt"
	"math"
	"math/rand"
	"reflect"
	"slices"
	"strconv"
	"strings"
	"testing"

	"polliwog/api"
	"polliwog/event"
	"polliwog/node"
	"polliwog/pace"
	"polliwog/pdu"
	"polliwog/rules"
	"polliwog/seq"
	"polliwog/timer"
)

const top = 1<<24 - 1

// plain is how an end is in most tests: numbers go over the end soon.
var plain = node.Config{Most: 2, Window: 4, Queue: 5, Units: 3, Polls: 4, Start: top - 1, Pace: pace.Config{CC: 3, Poll: 4, Keep: 6, Silent: 9, Idle: 5}}

// at is the number of a place: 0 is Start.
func at(place int) seq.Num { return plain.Start.Add(place) }

// both is an end and its model, which are asked the same.
type both struct {
	t *testing.T
	n *node.Node
	m *model
}

func start(t *testing.T, c node.Config) both {
	t.Helper()
	n, err := node.New(c)
	if err != api.OK || n == nil {
		t.Fatalf("P16.1: New(%+v) = %d", c, err)
	}
	b := both{t, n, newModel(c)}
	b.check("New")
	return b
}

func (b both) clone() both { return both{b.t, b.n.Clone(), b.m.clone()} }

// check asks all that changes nothing.
func (b both) check(behind string) {
	b.t.Helper()
	got, want := b.n.Vars(), b.m.vars()
	if !reflect.DeepEqual(got, want) {
		b.t.Fatalf("P16.1: behind %s\n%+v, want\n%+v", behind, got, want)
	}
	if b.n.Quiet() != b.m.quiet() || b.n.Safe() != b.m.pace.Safe() {
		b.t.Fatalf("P16.1: behind %s Quiet is %v, Safe is %v, at %+v", behind, b.n.Quiet(), b.n.Safe(), got)
	}
	c := b.m.c
	if got.Control > 9 || got.Units > c.Units || got.Send.Queued > c.Queue || got.Recv.Buffered+got.Recv.Inbox > c.Window || got.Recv.Gaps > 8 {
		b.t.Fatalf("P16.4: behind %s %+v", behind, got)
	}
}

// told looks at what a call tells.
func (b both) told(what string, got, want []event.Signal) {
	b.t.Helper()
	if !slices.Equal(got, want) || (got == nil) != (want == nil) {
		b.t.Fatalf("P16.1: %s tells %v, want %v", what, texts(got), texts(want))
	}
	b.check(what)
}

func texts(l []event.Signal) []string {
	var s []string
	for _, x := range l {
		s = append(s, x.Text())
	}
	return s
}

func (b both) request(r event.Request) ([]event.Signal, api.Errno) {
	b.t.Helper()
	before := b.n.Vars()
	got, err := b.n.Request(r)
	want, wantErr := b.m.request(r)
	what := fmt.Sprintf("request %+v in %s", r, rules.Name(before.Conn.State))
	if err != wantErr {
		b.t.Fatalf("P16.1: %s: %d, want %d", what, err, wantErr)
	}
	if err != api.OK && (got != nil || !reflect.DeepEqual(b.n.Vars(), before)) {
		b.t.Fatalf("P16.2: %s is refused, and changes\n%+v to\n%+v", what, before, b.n.Vars())
	}
	b.told(what, got, want)
	return got, err
}

// ask is a request that may be made.
func (b both) ask(kind int, data ...string) []event.Signal {
	b.t.Helper()
	got, err := b.request(event.Request{Kind: kind, Data: strings.Join(data, "")})
	if err != api.OK {
		b.t.Fatalf("P16.1: request %d: %d", kind, err)
	}
	return got
}

// receive has a unit come.
func (b both) receive(u pdu.PDU) []event.Signal {
	b.t.Helper()
	got := b.n.Receive(u)
	b.told(fmt.Sprintf("%+v", u), got, b.m.receive(u))
	return got
}

func (b both) tick() []event.Signal {
	b.t.Helper()
	got := b.n.Tick()
	b.told("Tick", got, b.m.tick())
	return got
}

// next looks at what goes out next: whether it may be, and a new number is
// ahead of MS.
func (b both) next() (pdu.PDU, bool) {
	b.t.Helper()
	before := b.n.Vars().Send
	got, ok := b.n.Next()
	want, wantOK := b.m.next()
	if ok != wantOK || !reflect.DeepEqual(got, want) {
		b.t.Fatalf("P16.1: Next = %+v, %v, want %+v, %v", got, ok, want, wantOK)
	}
	if err := got.Check(); ok && err != api.OK {
		b.t.Fatalf("P16.3: Next = %+v, which may not be: %d", got, err)
	}
	if got.Kind == pdu.SD && got.N == before.S && !seq.Between(before.A, got.N, before.MS) {
		b.t.Fatalf("P16.5: Next = %+v, at %+v", got, before)
	}
	b.check("Next")
	return got, ok
}

// short is a unit's name, and its SQ; of one that has to do with messages the
// place of its number.
func short(u pdu.PDU) string {
	switch u.Kind {
	case pdu.SD, pdu.POLL, pdu.STAT, pdu.USTAT:
		return fmt.Sprint(u.Name(), " ", at(0).To(u.N))
	}
	return fmt.Sprint(u.Name(), " ", u.SQ)
}

// drain has all go out that does, and is short of each.
func (b both) drain() []string {
	b.t.Helper()
	var l []string
	for range 5000 {
		u, ok := b.next()
		if !ok {
			return l
		}
		l = append(l, short(u))
	}
	b.t.Fatalf("P16.1: no end of units: %v", l[:20])
	return nil
}

// out looks at what goes out.
func (b both) out(want ...string) {
	b.t.Helper()
	if got := b.drain(); !slices.Equal(got, want) {
		b.t.Errorf("P16.1: %v go out, want %v", got, want)
	}
}

// tells looks at the texts of what was told.
func (b both) tells(got []event.Signal, want ...string) {
	b.t.Helper()
	if l := texts(got); !slices.Equal(l, want) {
		b.t.Errorf("P16.1: %v is told, want %v", l, want)
	}
}

// ready is an end in Ready, whose sender's credit is so many messages.
func ready(t *testing.T, c node.Config, credit int) both {
	t.Helper()
	b := start(t, c)
	b.ask(event.Establish)
	b.drain()
	b.receive(pdu.PDU{Kind: pdu.BGAK, SQ: 1, N: c.Start.Add(credit)})
	if v := b.n.Vars(); v.Conn.State != rules.Ready {
		t.Fatalf("P16.1: %+v", v)
	}
	return b
}

// TestExample is the document's example.
func TestExample(t *testing.T) {
	b := start(t, plain)
	b.ask(event.Establish, "hello")
	if u, ok := b.next(); !ok || u.Kind != pdu.BGN || u.SQ != 1 || u.N != at(4) || u.Data != "hello" {
		t.Errorf("P16.1: %+v, %v", u, ok)
	}
	for range 3 {
		if u, ok := b.n.Next(); ok || !reflect.DeepEqual(u, pdu.PDU{}) {
			t.Errorf("P16.1: %+v, %v", u, ok)
		}
	}
}

// with is a config of which one number is another one.
func with(c node.Config, i, x int) node.Config {
	*[]*int{&c.Most, &c.Window, &c.Queue, &c.Units, &c.Polls, &c.Pace.CC, &c.Pace.Poll, &c.Pace.Keep, &c.Pace.Silent, &c.Pace.Idle}[i] = x
	return c
}

// TestCheck has each number at its edges.
func TestCheck(t *testing.T) {
	most := []int{16, 64, 256, 64, 256, 1 << 20}
	for i, x := range most {
		for _, c := range []node.Config{with(plain, i, 1), with(plain, i, x)} {
			if err := c.Check(); err != api.OK {
				t.Errorf("P16.1: Check of %+v = %d", c, err)
			}
			start(t, c)
		}
		for _, y := range []int{math.MinInt, math.MinInt32, -1, 0, x + 1, 1<<32 + 1, math.MaxInt} {
			unfit(t, with(plain, i, y))
		}
	}
	for _, s := range []seq.Num{0, 1, top} {
		c := plain
		c.Start = s
		start(t, c)
	}
	for _, s := range []seq.Num{top + 1, top + 2, math.MaxUint32} {
		c := plain
		c.Start = s
		unfit(t, c)
	}
	unfit(t, node.Config{})
	unfit(t, with(plain, 6, plain.Pace.Silent))
	unfit(t, with(plain, 7, plain.Pace.Silent))
	unfit(t, with(plain, 8, 0))
	unfit(t, with(plain, 9, 1<<20+1))
}

// unfit looks that there is no end of such a config.
func unfit(t *testing.T, c node.Config) {
	t.Helper()
	if n, err := node.New(c); c.Check() != api.ErrArg || err != api.ErrArg || n != nil {
		t.Errorf("P16.1: Check of %+v = %d, New = %v, %d", c, c.Check(), n, err)
	}
}

// TestNew has nothing but the connection's numbers.
func TestNew(t *testing.T) {
	b := start(t, plain)
	v := b.n.Vars()
	if v.Conn.State != rules.Idle || v.Conn.Peer != -1 || v.Conn.MS != at(4) {
		t.Errorf("P16.1: %+v", v)
	}
	v.Conn.State, v.Conn.Peer, v.Conn.MS = 0, 0, 0
	if !reflect.DeepEqual(v, node.Vars{}) || !b.n.Quiet() || !b.n.Safe() {
		t.Errorf("P16.1: %+v", v)
	}
	b.out()
}

// TestBothWaysToReady has an epoch begin with the credit that came.
func TestBothWaysToReady(t *testing.T) {
	asking := ready(t, plain, 3)
	asked := start(t, plain)
	asked.tells(asked.receive(pdu.PDU{Kind: pdu.BGN, SQ: 7, N: at(3), Data: "h"}), "establish 68")
	asked.ask(event.Accept)
	if u, ok := asked.next(); !ok || !reflect.DeepEqual(u, pdu.PDU{Kind: pdu.BGAK, SQ: 7, N: at(4)}) {
		t.Errorf("P16.1: %+v, %v", u, ok)
	}
	for _, b := range []both{asking, asked} {
		v := b.n.Vars()
		if v.Send.S != at(0) || v.Send.A != at(0) || v.Send.MS != at(3) || v.Recv.R != at(0) || v.Recv.MR != at(4) || v.PollDue || v.StatDue || v.Timers != [5]int{0, 4, 0, 9, 0} {
			t.Errorf("P16.1: %+v", v)
		}
		if !b.n.Quiet() || !b.n.Safe() {
			t.Errorf("P16.1: %+v", v)
		}
		b.out()
	}
}

// TestControlRow has units of a kind take one another's place, behind all others.
func TestControlRow(t *testing.T) {
	b := start(t, plain)
	sizes := func(want int) {
		t.Helper()
		if v := b.n.Vars(); v.Control != want || b.n.Quiet() != (want == 0) {
			t.Errorf("P16.4: %d control units, want %d", v.Control, want)
		}
	}
	b.receive(pdu.PDU{Kind: pdu.END, SQ: 1})
	b.receive(pdu.PDU{Kind: pdu.END, SQ: 2})
	sizes(1)
	b.tells(b.receive(pdu.PDU{Kind: pdu.POLL}), "error G")
	sizes(2)
	b.receive(pdu.PDU{Kind: pdu.END, SQ: 3})
	sizes(2)
	b.out("end 0", "endak 3")
	b.receive(pdu.PDU{Kind: pdu.END, SQ: 4})
	b.ask(event.Establish)
	b.ask(event.Release)
	b.ask(event.Establish)
	sizes(3)
	b.out("endak 4", "end 1", "bgn 2")
	sizes(0)
}

// TestMostControlUnits has all nine kinds wait at once.
func TestMostControlUnits(t *testing.T) {
	b := start(t, plain)
	sq := 10
	heard := func(kind int) {
		t.Helper()
		sq++
		b.receive(pdu.PDU{Kind: kind, SQ: sq})
	}
	b.ask(event.Establish)
	b.receive(pdu.PDU{Kind: pdu.END, SQ: 1})
	heard(pdu.BGN)
	b.ask(event.Resync)
	heard(pdu.RS)
	b.receive(pdu.PDU{Kind: pdu.POLL, N: at(9)})
	heard(pdu.ER)
	b.ask(event.Release)
	heard(pdu.BGN)
	b.ask(event.Release)
	heard(pdu.END)
	if v := b.n.Vars(); v.Control != 9 {
		t.Errorf("P16.4: %d control units", v.Control)
	}
	var kinds []int
	for range 9 {
		u, _ := b.next()
		kinds = append(kinds, u.Kind)
	}
	want := []int{pdu.BGN, pdu.BGAK, pdu.RS, pdu.RSAK, pdu.ER, pdu.ERAK, pdu.END, pdu.BGREJ, pdu.ENDAK}
	if !slices.Equal(kinds, want) || !b.n.Quiet() {
		t.Errorf("P16.4: kinds %v, want %v", kinds, want)
	}
}

// TestUnits has messages of Unit and Manage wait, in any state, as many as may.
func TestUnits(t *testing.T) {
	for _, b := range []both{start(t, plain), ready(t, plain, 4)} {
		b.ask(event.Unit, "a")
		b.ask(event.Manage, "b")
		b.ask(event.Unit, strings.Repeat("c", 200))
		for _, kind := range []int{event.Unit, event.Manage} {
			for _, size := range []int{0, 200} {
				if _, err := b.request(event.Request{Kind: kind, Data: strings.Repeat("d", size)}); err != api.ErrFull {
					t.Errorf("P16.4: %d, where three wait", err)
				}
			}
			if _, err := b.request(event.Request{Kind: kind, Data: strings.Repeat("d", 201)}); err != api.ErrBig {
				t.Errorf("P16.2: %d", err)
			}
		}
		if v := b.n.Vars(); v.Units != 3 || b.n.Quiet() {
			t.Errorf("P16.4: %+v", v)
		}
		for _, want := range []pdu.PDU{{Kind: pdu.UD, Data: "a"}, {Kind: pdu.MD, Data: "b"}, {Kind: pdu.UD, Data: strings.Repeat("c", 200)}} {
			if u, ok := b.next(); !ok || !reflect.DeepEqual(u, want) {
				t.Errorf("P16.1: %+v, want %+v", u, want)
			}
		}
		b.out()
		b.tells(b.receive(pdu.PDU{Kind: pdu.UD, Data: "u"}), "unit 75")
		b.tells(b.receive(pdu.PDU{Kind: pdu.MD, Data: ""}), "manage -")
	}
	for _, units := range []int{1, 64} {
		b := start(t, with(plain, 3, units))
		for range units {
			b.ask(event.Manage, "m")
		}
		if _, err := b.request(event.Request{Kind: event.Manage}); err != api.ErrFull {
			t.Errorf("P16.4: %d, where %d wait", err, units)
		}
	}
}

// TestErrorsInOrder has several apply at once.
func TestErrorsInOrder(t *testing.T) {
	b := start(t, plain)
	for _, x := range []struct {
		r    event.Request
		want api.Errno
	}{
		{event.Request{}, api.ErrKind}, {event.Request{Kind: 12, Data: strings.Repeat("d", 300)}, api.ErrKind},
		{event.Request{Kind: event.Data, Data: strings.Repeat("d", 201)}, api.ErrBig}, {event.Request{Kind: event.Data, N: 1}, api.ErrArg},
		{event.Request{Kind: event.Data, Data: "d"}, api.ErrState}, {event.Request{Kind: event.Accept}, api.ErrState},
		{event.Request{Kind: event.Release, Data: strings.Repeat("d", 65)}, api.ErrBig}, {event.Request{Kind: event.Take}, api.ErrArg},
		{event.Request{Kind: event.Take, N: 65}, api.ErrArg}, {event.Request{Kind: event.Take, N: 64}, api.OK}, {event.Request{Kind: event.Retrieve}, api.OK},
	} {
		if _, err := b.request(x.r); err != x.want {
			t.Errorf("P16.2: %+v: %d, want %d", x.r, err, x.want)
		}
	}
}

// TestData has messages wait, at most as many as may, and go out in order.
func TestData(t *testing.T) {
	b := ready(t, plain, 3)
	for i := range 5 {
		b.ask(event.Data, strconv.Itoa(i))
	}
	if _, err := b.request(event.Request{Kind: event.Data, Data: "5"}); err != api.ErrFull || b.n.Quiet() {
		t.Errorf("P16.4: %d, where five wait", err)
	}
	for i := range 3 {
		if u, ok := b.next(); !ok || !reflect.DeepEqual(u, pdu.PDU{Kind: pdu.SD, N: at(i), Data: strconv.Itoa(i)}) {
			t.Errorf("P16.5: %+v", u)
		}
	}
	b.out()
	if v := b.n.Vars(); v.Send.S != v.Send.MS || v.Send.Queued != 2 || v.Send.Kept != 3 {
		t.Errorf("P16.5: %+v", v)
	}
}

// TestBusy has a message wake what is asleep; one that is refused doesn't.
func TestBusy(t *testing.T) {
	b := ready(t, with(plain, 2, 1), 0)
	timers := func(what string, want ...int) {
		t.Helper()
		if v := b.n.Vars(); !slices.Equal(v.Timers[:], want) {
			t.Errorf("P16.1: %s: timers %v, want %v", what, v.Timers, want)
		}
	}
	for range 4 {
		b.tick()
	}
	b.out("poll 0")
	timers("a poll, with nothing outstanding", 0, 0, 6, 5, 0)
	b.receive(pdu.PDU{Kind: pdu.STAT, N: at(0), PS: at(1), MR: at(0)})
	timers("its status", 0, 0, 0, 0, 5)
	b.ask(event.Data, "d")
	timers("a message", 0, 4, 0, 9, 0)
	b.tick()
	b.request(event.Request{Kind: event.Data, Data: "e"})
	timers("a message that is refused", 0, 3, 0, 8, 0)
	for range 3 {
		b.tick()
	}
	b.out("poll 0")
	timers("a poll, with something outstanding", 0, 4, 0, 5, 0)
	b.receive(pdu.PDU{Kind: pdu.STAT, N: at(0), PS: at(2), MR: at(0)})
	timers("its status", 0, 4, 0, 9, 0)
}

// TestTake takes what came in Ready, and nothing else.
func TestTake(t *testing.T) {
	b := ready(t, plain, 4)
	for i := range 3 {
		b.tells(b.receive(pdu.PDU{Kind: pdu.SD, N: at(i), Data: "m"}), "data 6d")
	}
	take := func(n, inbox int) {
		t.Helper()
		got, err := b.request(event.Request{Kind: event.Take, N: n})
		if v := b.n.Vars(); err != api.OK || got != nil || v.Recv.Inbox != inbox {
			t.Errorf("P16.1: Take %d: %v, %d, %d stay", n, got, err, v.Recv.Inbox)
		}
	}
	take(2, 1)
	take(64, 0)
	take(1, 0)
	b.ask(event.Release)
	take(5, 0)
}

// TestLeft has messages of an epoch that ended be told once, in their order.
func TestLeft(t *testing.T) {
	b := ready(t, plain, 2)
	b.tells(b.ask(event.Retrieve))
	for _, m := range []string{"a", "b", "c", "d"} {
		b.ask(event.Data, m)
	}
	b.drain()
	b.receive(pdu.PDU{Kind: pdu.USTAT, N: at(1), MR: at(2), List: []seq.Num{at(1), at(2)}})
	b.tells(b.ask(event.Retrieve))
	b.ask(event.Resync)
	if v := b.n.Vars(); v.Left != 3 || !reflect.DeepEqual(v.Send.Again, []seq.Num(nil)) || v.Send.Kept != 0 || v.Recv.MR != 0 {
		t.Errorf("P16.1: %+v", v)
	}
	b.tells(b.ask(event.Retrieve), "retrieved 62", "retrieved 63", "retrieved 64")
	b.tells(b.ask(event.Retrieve))
	b.receive(pdu.PDU{Kind: pdu.RSAK, SQ: 2, N: at(9)})
	b.ask(event.Data, "e")
	b.receive(pdu.PDU{Kind: pdu.ENDAK})
	if v := b.n.Vars(); v.Conn.State != rules.Idle || v.Left != 1 {
		t.Errorf("P16.1: %+v", v)
	}
	// The next epoch leaves nothing.
	b.receive(pdu.PDU{Kind: pdu.BGN, SQ: 9, N: at(1)})
	b.ask(event.Accept)
	if v := b.n.Vars(); v.Left != 1 {
		t.Errorf("P16.1: %+v", v)
	}
	b.ask(event.Release)
	if v := b.n.Vars(); v.Left != 0 {
		t.Errorf("P16.1: %+v", v)
	}
	b.tells(b.ask(event.Retrieve))
}

// TestUnitsInReady has SD, POLL, STAT and USTAT come, as they may and may not.
func TestUnitsInReady(t *testing.T) {
	sent := func() both {
		b := ready(t, plain, 4)
		for range 3 {
			b.ask(event.Data, "m")
		}
		b.drain()
		for range 4 {
			b.tick()
		}
		b.drain()
		return b
	}
	for _, x := range []struct {
		u     pdu.PDU
		state int
		want  []string
	}{
		{pdu.PDU{Kind: pdu.SD, N: at(0), Data: "a"}, rules.Ready, []string{"data 61"}},
		{pdu.PDU{Kind: pdu.SD, N: at(1), Data: "a"}, rules.Ready, nil},
		{pdu.PDU{Kind: pdu.SD, N: at(4), Data: "a"}, rules.Ready, nil},
		{pdu.PDU{Kind: pdu.POLL, N: at(0), PS: 3}, rules.Ready, nil},
		{pdu.PDU{Kind: pdu.POLL, N: at(4), PS: 3}, rules.Ready, nil},
		{pdu.PDU{Kind: pdu.POLL, N: at(5), PS: 3}, rules.Recovering, []string{"error Q"}},
		{pdu.PDU{Kind: pdu.STAT, N: at(3), PS: at(1), MR: at(9)}, rules.Ready, nil},
		{pdu.PDU{Kind: pdu.STAT, N: at(0), PS: at(0), MR: at(9)}, rules.Ready, nil},
		{pdu.PDU{Kind: pdu.STAT, N: at(1), PS: at(1), MR: at(9), List: []seq.Num{at(1), at(3)}}, rules.Ready, []string{"error V 2"}},
		{pdu.PDU{Kind: pdu.STAT, N: at(1), PS: at(2), MR: at(9)}, rules.Recovering, []string{"error R"}},
		{pdu.PDU{Kind: pdu.STAT, N: at(4), PS: at(2), MR: at(9)}, rules.Recovering, []string{"error R"}},
		{pdu.PDU{Kind: pdu.STAT, N: at(4), PS: at(1), MR: at(9)}, rules.Recovering, []string{"error S"}},
		{pdu.PDU{Kind: pdu.STAT, N: at(1), PS: at(1), MR: at(9), List: []seq.Num{at(2), at(2)}}, rules.Recovering, []string{"error S"}},
		{pdu.PDU{Kind: pdu.USTAT, N: at(0), MR: at(9), List: []seq.Num{at(0), at(3)}}, rules.Ready, []string{"error V 3"}},
		{pdu.PDU{Kind: pdu.USTAT, N: at(0), MR: at(9), List: []seq.Num{at(0), at(4)}}, rules.Recovering, []string{"error T"}},
		{pdu.PDU{Kind: pdu.USTAT, N: at(4), MR: at(9), List: []seq.Num{at(4), at(5)}}, rules.Recovering, []string{"error T"}},
		{pdu.PDU{Kind: pdu.BGAK, SQ: 1, N: at(9)}, rules.Ready, nil},
		{pdu.PDU{Kind: pdu.ENDAK, SQ: 1}, rules.Idle, []string{"error F", "release self -"}},
		{pdu.PDU{Kind: pdu.END, SQ: 1, Data: "b"}, rules.Idle, []string{"release user 62"}},
		{pdu.PDU{Kind: pdu.ER, SQ: 4}, rules.Recovered, []string{"recover"}},
	} {
		b := sent()
		b.tells(b.receive(x.u), x.want...)
		v := b.n.Vars()
		if v.Conn.State != x.state {
			t.Errorf("P16.1: %+v: %s", x.u, rules.Name(v.Conn.State))
		}
		if due := x.u.Kind == pdu.POLL && x.state == rules.Ready; v.StatDue != due {
			t.Errorf("P16.1: %+v: a status is due: %v", x.u, v.StatDue)
		}
		// What falls leaves its messages, and no timers but CC.
		if x.state != rules.Ready && (v.Left != 3 || v.Timers[1]+v.Timers[2]+v.Timers[3]+v.Timers[4] != 0) {
			t.Errorf("P16.1: %+v: %+v", x.u, v)
		}
		if v.Timers[timer.CC] > 0 != (x.state == rules.Recovering) {
			t.Errorf("P16.1: %+v: %+v", x.u, v)
		}
		b.drain()
	}
}

// TestMessagesOutsideReady has them come where there is no epoch.
func TestMessagesOutsideReady(t *testing.T) {
	for _, u := range []pdu.PDU{{Kind: pdu.SD}, {Kind: pdu.POLL}, {Kind: pdu.STAT}, {Kind: pdu.USTAT, List: []seq.Num{1, 2}}} {
		letter := string(rules.Letter(u.Kind))
		b := start(t, plain)
		b.tells(b.receive(u), "error "+letter)
		b.out("end 0")
		b.receive(pdu.PDU{Kind: pdu.BGN, SQ: 1})
		b.tells(b.receive(u), "error "+letter)
		b.out()
		b = ready(t, plain, 4)
		b.ask(event.Resync)
		b.drain()
		b.tells(b.receive(u))
		b.out()
	}
}

// TestNextInOrder has all kinds wait at once.
func TestNextInOrder(t *testing.T) {
	b := ready(t, with(plain, 4, 1), 9)
	b.receive(pdu.PDU{Kind: pdu.BGN, SQ: 254, N: at(9)})
	b.ask(event.Accept)
	b.ask(event.Data, "a")
	b.ask(event.Data, "b")
	b.receive(pdu.PDU{Kind: pdu.SD, N: at(1), Data: "y"})
	b.receive(pdu.PDU{Kind: pdu.SD, N: at(3), Data: "z"})
	for range 4 {
		b.tick()
	}
	b.receive(pdu.PDU{Kind: pdu.POLL, N: at(4), PS: 77})
	b.receive(pdu.PDU{Kind: pdu.POLL, N: at(4), PS: 78})
	b.ask(event.Unit, "u")
	b.receive(pdu.PDU{Kind: pdu.BGN, SQ: 254})
	for _, want := range []pdu.PDU{
		{Kind: pdu.BGAK, SQ: 254, N: at(4)},
		{Kind: pdu.UD, Data: "u"},
		{Kind: pdu.STAT, N: at(0), PS: 78, MR: at(4), List: []seq.Num{at(0), at(1), at(2), at(3)}},
		{Kind: pdu.USTAT, N: at(0), MR: at(4), List: []seq.Num{at(0), at(1)}},
		{Kind: pdu.USTAT, N: at(0), MR: at(4), List: []seq.Num{at(2), at(3)}},
		{Kind: pdu.POLL, N: at(0), PS: at(1)},
		{Kind: pdu.SD, N: at(0), Data: "a"},
		{Kind: pdu.POLL, N: at(1), PS: at(2)},
		{Kind: pdu.SD, N: at(1), Data: "b"},
		{Kind: pdu.POLL, N: at(2), PS: at(3)},
	} {
		if got, ok := b.next(); !ok || !reflect.DeepEqual(got, want) {
			t.Errorf("P16.1: %+v goes out, want %+v", got, want)
		}
	}
	b.out()
}

// TestPolls has one go out when a timer is over, and when as many units went
// out as behind which it is due; each once.
func TestPolls(t *testing.T) {
	b := ready(t, with(plain, 4, 2), 9)
	for range 5 {
		b.ask(event.Data, "m")
	}
	b.out("sd 0", "sd 1", "poll 2", "sd 2", "sd 3", "poll 4", "sd 4")
	for range 3 {
		b.tick()
	}
	b.out()
	b.tick()
	if v := b.n.Vars(); !v.PollDue || b.n.Quiet() {
		t.Errorf("P16.1: %+v", v)
	}
	b.out("poll 5")
	b.receive(pdu.PDU{Kind: pdu.STAT, N: at(0), PS: at(3), MR: at(9), List: []seq.Num{at(0), at(1), at(3), at(5)}})
	b.out("sd 0", "sd 3", "poll 5", "sd 4")
}

// TestTimersOver has each do what it does, in Ready and elsewhere.
func TestTimersOver(t *testing.T) {
	b := start(t, plain)
	b.ask(event.Establish)
	b.out("bgn 1")
	ticks := func(n int, want ...string) {
		t.Helper()
		for i := range n {
			got := b.tick()
			if i < n-1 && got != nil {
				t.Errorf("P16.1: Tick %d tells %v", i+1, texts(got))
			}
			if i == n-1 {
				b.tells(got, want...)
			}
		}
	}
	ticks(2)
	b.out()
	ticks(1)
	b.out("bgn 1")
	ticks(3, "error O", "release self -")
	b.out("end 1")
	ticks(20)
	b.out()
	b = ready(t, plain, 4)
	b.ask(event.Data, "m")
	b.drain()
	ticks(9, "error P", "release self -")
	if v := b.n.Vars(); v.Conn.State != rules.Idle || v.Left != 1 || v.PollDue || v.Timers != [5]int{} {
		t.Errorf("P16.1: %+v", v)
	}
	b.out("end 1")
	// Poll and Silent at one tick: there is none to be asked any more.
	b = ready(t, plain, 4)
	ticks(1)
	b.receive(pdu.PDU{Kind: pdu.STAT, N: at(0), PS: at(0), MR: at(4)})
	ticks(5)
	b.ask(event.Data, "m")
	b.drain()
	ticks(4, "error P", "release self -")
	b.out("end 1")
}

// TestCredit has it lack, and come.
func TestCredit(t *testing.T) {
	b := ready(t, plain, 1)
	lacks := func(want bool) {
		t.Helper()
		if v := b.n.Vars(); v.Lacks != want {
			t.Errorf("P16.1: Lacks is %v", v.Lacks)
		}
	}
	b.tells(b.ask(event.Data, "a"))
	lacks(false)
	b.tells(b.ask(event.Data, "b"))
	b.drain()
	// Now it does, but that is asked behind the next call alone.
	lacks(false)
	b.request(event.Request{Kind: event.Take})
	b.request(event.Request{Kind: event.Accept})
	b.tells(b.n.Garbled(), "error U")
	lacks(false)
	b.tells(b.tick(), "error W")
	lacks(true)
	b.tells(b.tick())
	b.tells(b.receive(pdu.PDU{Kind: pdu.UD, Data: "u"}), "unit 75")
	b.tells(b.receive(pdu.PDU{Kind: pdu.USTAT, N: at(0), MR: at(1), List: []seq.Num{at(0), at(1)}}), "error V 1")
	lacks(true)
	b.tells(b.receive(pdu.PDU{Kind: pdu.USTAT, N: at(0), MR: at(2), List: []seq.Num{at(0), at(1)}}), "error X")
	lacks(false)
	b.drain()
	b.tells(b.ask(event.Data, "c"), "error W")
	b.tells(b.receive(pdu.PDU{Kind: pdu.STAT, N: at(2), PS: at(0), MR: at(3)}), "error X")
	b.drain()
	b.tells(b.ask(event.Data, "d"), "error W")
	// The end of an epoch is no credit.
	b.tells(b.receive(pdu.PDU{Kind: pdu.END, SQ: 9}), "release user -")
	lacks(false)
	b.receive(pdu.PDU{Kind: pdu.BGN, SQ: 9, N: at(0)})
	b.tells(b.ask(event.Accept))
	b.tells(b.ask(event.Data, "e"), "error W")
	b.tells(b.ask(event.Resync))
	b.tells(b.receive(pdu.PDU{Kind: pdu.RSAK, SQ: b.sq(), N: at(0)}), "resynced")
}

// sq is the end's own SQ.
func (b both) sq() int { return b.n.Vars().Conn.SQ }

// TestGarbled tells the same in any state, and changes nothing.
func TestGarbled(t *testing.T) {
	for _, b := range []both{start(t, plain), ready(t, plain, 0)} {
		for range 3 {
			if got := b.n.Garbled(); !slices.Equal(got, []event.Signal{{Kind: event.Report, Code: 'U'}}) {
				t.Errorf("P16.1: Garbled = %v", got)
			}
			b.check("Garbled")
		}
		b.out()
	}
}

// TestQuiet has each thing wait alone.
func TestQuiet(t *testing.T) {
	quiet := func(what string, b both, want bool) {
		t.Helper()
		if b.n.Quiet() != want {
			t.Errorf("P16.1: %s: Quiet is %v", what, b.n.Quiet())
		}
	}
	b := ready(t, with(plain, 4, 1), 9)
	quiet("an epoch", b, true)
	b.ask(event.Data, "m")
	quiet("a message", b, false)
	b.next()
	quiet("a message that went out", b, false)
	b.receive(pdu.PDU{Kind: pdu.STAT, N: at(1), PS: at(0), MR: at(9)})
	quiet("a poll of the sender's own", b, true)
	b.out("poll 1")
	quiet("its poll went out", b, true)
	b.receive(pdu.PDU{Kind: pdu.POLL, N: at(0), PS: 6})
	quiet("a status", b, false)
	b.drain()
	quiet("a status that went out", b, true)
	b.receive(pdu.PDU{Kind: pdu.SD, N: at(1), Data: "x"})
	quiet("a gap", b, false)
	b.drain()
	quiet("a gap that was told", b, true)
	b.ask(event.Unit)
	quiet("a unit of a message", b, false)
	b.drain()
	for !b.n.Vars().PollDue {
		b.tick()
	}
	quiet("a poll", b, false)
	b.drain()
	b.ask(event.Resync)
	quiet("a control unit", b, false)
	b.drain()
	quiet("no epoch", b, true)
}

// some is a number from the first one on, at most as far as the other one.
func some(r *rand.Rand, from, to seq.Num) seq.Num { return from.Add(r.Intn(from.To(to) + 1)) }

// fitting is a unit that another end might tell: a message, a report or a poll
// that can be, or what takes an end nearer to Ready.
func fitting(r *rand.Rand, v node.Vars) pdu.PDU {
	s, in := v.Send, v.Recv
	answer := func(kind int) pdu.PDU { return pdu.PDU{Kind: kind, SQ: v.Conn.SQ, N: v.Conn.MS.Add(r.Intn(7) - 3)} }
	switch v.Conn.State {
	case rules.Outgoing:
		return answer(pdu.BGAK)
	case rules.Leaving:
		return pdu.PDU{Kind: pdu.ENDAK, SQ: v.Conn.SQ}
	case rules.Resyncing:
		return answer(pdu.RSAK)
	case rules.Recovering:
		return answer(pdu.ERAK)
	case rules.Ready:
		wanted := some(r, s.A, s.S)
		switch r.Intn(6) {
		case 0:
			return pdu.PDU{Kind: pdu.POLL, N: some(r, in.H, in.MR), PS: seq.Num(r.Intn(1 << 24))}
		case 1:
			u := pdu.PDU{Kind: pdu.STAT, N: wanted, PS: some(r, s.PA, s.PS), MR: s.MS.Add(r.Intn(3))}
			if r.Intn(2) == 0 && u.N != s.S {
				u.List = []seq.Num{u.N, some(r, u.N.Add(1), s.S)}
			}
			return u
		case 2:
			if wanted != s.S {
				return pdu.PDU{Kind: pdu.USTAT, N: wanted, MR: s.MS.Add(r.Intn(2)), List: []seq.Num{wanted, wanted.Add(1)}}
			}
		}
		return pdu.PDU{Kind: pdu.SD, N: in.R.Add(r.Intn(4)), Data: strconv.Itoa(r.Intn(1000))}
	}
	return pdu.PDU{Kind: pdu.BGN, SQ: (v.Conn.Peer + 1) % 256, N: seq.Num(r.Intn(1 << 24)), Data: "begin"}
}

// wild is a unit of any kind that may be, with numbers near those of an end, or any.
func wild(r *rand.Rand, v node.Vars) pdu.PDU {
	s, in := v.Send, v.Recv
	near := func(l ...seq.Num) seq.Num {
		if r.Intn(6) == 0 {
			return seq.Num(r.Intn(1 << 24))
		}
		return l[r.Intn(len(l))].Add(r.Intn(7) - 3)
	}
	sq := []int{v.Conn.SQ, v.Conn.SQ, max(v.Conn.Peer, 0), max(v.Conn.Peer, 0), (v.Conn.Peer + 1) % 256, r.Intn(256)}[r.Intn(6)]
	text := strings.Repeat(strconv.Itoa(r.Intn(10)), r.Intn(5)*r.Intn(17))
	switch kind := 1 + r.Intn(15); kind {
	case pdu.BGN, pdu.RS:
		return pdu.PDU{Kind: kind, SQ: sq, N: near(s.MS, in.MR, v.Conn.MS), Data: text}
	case pdu.BGAK, pdu.RSAK, pdu.ER, pdu.ERAK:
		return pdu.PDU{Kind: kind, SQ: sq, N: near(s.MS, in.MR, v.Conn.MS)}
	case pdu.END, pdu.BGREJ:
		return pdu.PDU{Kind: kind, SQ: sq, Data: text, Self: kind == pdu.END && r.Intn(2) == 0}
	case pdu.ENDAK:
		return pdu.PDU{Kind: kind, SQ: sq}
	case pdu.SD:
		return pdu.PDU{Kind: kind, N: near(in.R, in.H, in.MR), Data: text}
	case pdu.POLL:
		return pdu.PDU{Kind: kind, N: near(in.H, in.R, in.MR), PS: near(0)}
	case pdu.STAT:
		l := []seq.Num{near(s.A), near(s.A, s.S), near(s.S), near(s.S)}
		return pdu.PDU{Kind: kind, N: near(s.A, s.S), PS: near(s.PS, s.PA), MR: near(s.MS, s.S), List: append([]seq.Num(nil), l[:2*r.Intn(3)]...)}
	case pdu.USTAT:
		return pdu.PDU{Kind: kind, N: near(s.A, s.S), MR: near(s.MS, s.S), List: []seq.Num{near(s.A), near(s.A, s.S)}}
	default:
		return pdu.PDU{Kind: kind, Data: text}
	}
}

// drawn is a unit that comes.
func drawn(r *rand.Rand, v node.Vars) pdu.PDU {
	if r.Intn(25) == 0 {
		return wild(r, v)
	}
	return fitting(r, v)
}

// helpful is the request that takes an end nearer to Ready; there a message.
func helpful(r *rand.Rand, state int) event.Request {
	switch state {
	case rules.Idle, rules.Leaving:
		return event.Request{Kind: event.Establish}
	case rules.Incoming:
		return event.Request{Kind: event.Accept}
	case rules.Resynced:
		return event.Request{Kind: event.Resynced}
	case rules.Answered, rules.Recovered:
		return event.Request{Kind: event.Recovered}
	}
	return event.Request{Kind: event.Data, Data: strconv.Itoa(r.Intn(1000))}
}

// step does a drawn thing.
func step(r *rand.Rand, b both) {
	b.t.Helper()
	v := b.n.Vars()
	switch x := r.Intn(24); {
	case x < 8:
		b.next()
	case x < 10:
		b.tick()
	case x < 14:
		b.request(helpful(r, v.Conn.State))
	case x == 14:
		b.request(event.Request{Kind: event.Take, N: 1 + r.Intn(5)})
	case x == 15:
		b.request(event.Request{Kind: event.Unit + r.Intn(2), Data: "u"})
	case x == 16 && r.Intn(4) == 0:
		b.request(event.Request{Kind: event.Retrieve})
	case x == 17 && r.Intn(4) == 0:
		b.request(event.Request{Kind: r.Intn(13), Data: strings.Repeat("q", r.Intn(3)*r.Intn(110)), N: r.Intn(2) * r.Intn(70)})
	case x == 18 && r.Intn(6) == 0:
		for range r.Intn(12) {
			b.tick()
		}
	default:
		u := drawn(r, v)
		if u.Check() != api.OK {
			b.t.Fatalf("a unit that may not be: %+v", u)
		}
		b.receive(u)
	}
}

// chance is a config that may be.
func chance(r *rand.Rand) node.Config {
	silent := 2 + r.Intn(12)
	return node.Config{
		Most: 1 + r.Intn(4), Window: 1 + r.Intn(9), Queue: 1 + r.Intn(6), Units: 1 + r.Intn(3), Polls: 1 + r.Intn(5),
		Start: []seq.Num{0, 1, top, top - 3, 1 << 23, 1<<23 - 2}[r.Intn(6)],
		Pace:  pace.Config{CC: 1 + r.Intn(6), Poll: 1 + r.Intn(silent-1), Keep: 1 + r.Intn(silent-1), Silent: silent, Idle: 1 + r.Intn(9)},
	}
}

// TestAnyCalls holds an end against the model behind any calls.
func TestAnyCalls(t *testing.T) {
	for seed := range 300 {
		r := rand.New(rand.NewSource(int64(seed)))
		b := start(t, chance(r))
		for range 500 {
			step(r, b)
		}
	}
}

// TestFarCredit has a credit as far as may be, and further.
func TestFarCredit(t *testing.T) {
	for _, far := range []int{1 << 23, 1<<23 + 1, -1} {
		b := ready(t, with(plain, 4, 256), far)
		for i := range 300 {
			b.request(event.Request{Kind: event.Data, Data: strconv.Itoa(i)})
			b.next()
		}
		if v := b.n.Vars(); (v.Send.Kept == 0) != (far != 1<<23) {
			t.Errorf("P16.5: credit of %d: %+v", far, v.Send)
		}
	}
}

// TestCloneGoesItsOwnWay does unlike things to an end and its clone.
func TestCloneGoesItsOwnWay(t *testing.T) {
	for seed := range 60 {
		r := rand.New(rand.NewSource(int64(seed)))
		b := start(t, chance(r))
		for range 20 + r.Intn(100) {
			step(r, b)
		}
		c := b.clone()
		c.check("Clone")
		for range 80 {
			step(r, b)
			c.check("a call of the other one")
			step(r, c)
			b.check("a call of the clone")
		}
		b.drain()
		c.drain()
	}
}

// TestAnswersAreNew is rule 5: what is answered, or was handed in, is written
// over, to its last spare place.
func TestAnswersAreNew(t *testing.T) {
	spoil := func(l []event.Signal) {
		for i := range l[:cap(l)] {
			l[:cap(l)][i] = event.Signal{Kind: 99}
		}
	}
	numbers := func(l []seq.Num) {
		for i := range l[:cap(l)] {
			l[:cap(l)][i] = 5
		}
	}
	for seed := range 60 {
		r := rand.New(rand.NewSource(int64(seed)))
		b := start(t, chance(r))
		for range 200 {
			step(r, b)
			u := drawn(r, b.n.Vars())
			before := append([]seq.Num(nil), u.List...)
			spoil(b.receive(u))
			if !slices.Equal(before, u.List) {
				t.Fatalf("P16.1: Receive changes %v to %v", before, u.List)
			}
			numbers(u.List)
			spoil(b.tick())
			spoil(b.n.Garbled())
			got, _ := b.request(event.Request{Kind: event.Retrieve})
			spoil(got)
			out, _ := b.next()
			numbers(out.List)
			v := b.n.Vars()
			numbers(v.Send.Again)
			b.check("what is written over")
		}
	}
}

// TestEachCallAnswers is P1: any values of the arguments' types, also units that may not be.
func TestEachCallAnswers(t *testing.T) {
	r := rand.New(rand.NewSource(1))
	for range 300 {
		c := with(plain, r.Intn(10), int(r.Uint64()))
		c.Start = seq.Num(r.Uint32())
		if n, err := node.New(c); err != c.Check() || (n == nil) != (err != api.OK) {
			t.Fatalf("P16.1: New(%+v) = %v, %d", c, n, err)
		}
		n, _ := node.New(chance(r))
		for range 200 {
			u := drawn(r, n.Vars())
			for range r.Intn(3) {
				switch r.Intn(6) {
				case 0:
					u.SQ = int(r.Uint64())
				case 1:
					u.N = seq.Num(r.Uint32())
				case 2:
					u.PS, u.MR = seq.Num(r.Uint32()), seq.Num(r.Uint32())
				case 3:
					u.List = append(u.List, seq.Num(r.Uint32()))
				case 4:
					u.Kind = int(r.Uint64()) % 20
				case 5:
					u.List = make([]seq.Num, r.Intn(300))
				}
			}
			n.Receive(u)
			n.Request(helpful(r, n.Vars().Conn.State))
			n.Request(event.Request{Kind: int(r.Uint64()) % 15, Data: strings.Repeat("d", r.Intn(300)), N: int(r.Uint64())})
			n.Next()
			n.Quiet()
			n.Safe()
			if r.Intn(4) == 0 {
				n.Tick()
			}
			if v := n.Clone().Vars(); v.Control > 9 {
				t.Fatalf("P16.4: %+v", v)
			}
		}
	}
}

// TestTwoEnds has messages go both ways, with units lost, and all come, in order.
func TestTwoEnds(t *testing.T) {
	for seed := range 40 {
		r := rand.New(rand.NewSource(int64(seed)))
		c := chance(r)
		c.Most, c.Pace = 16, pace.Config{CC: 2, Poll: 2, Keep: 3, Silent: 200, Idle: 4}
		ends := [2]both{start(t, c), start(t, c)}
		var asked, came [2][]string
		hear := func(end int, l []event.Signal) {
			for _, s := range l {
				switch s.Kind {
				case event.EstablishInd:
					ends[end].ask(event.Accept)
				case event.DataInd:
					came[end] = append(came[end], s.Data)
				case event.ReleaseInd, event.RecoverInd, event.ResyncInd:
					t.Fatalf("P16.1: seed %d: end %d is told %s", seed, end, s.Text())
				}
			}
		}
		ends[0].ask(event.Establish)
		for round := range 3000 {
			end := r.Intn(2)
			if u, ok := ends[end].next(); ok && (r.Intn(4) > 0 || round > 2000) {
				hear(1-end, ends[1-end].receive(u))
			}
			m := strconv.Itoa(round)
			if round < 1500 && r.Intn(5) == 0 {
				if _, err := ends[end].request(event.Request{Kind: event.Data, Data: m}); err == api.OK {
					asked[end] = append(asked[end], m)
				}
			}
			ends[end].request(event.Request{Kind: event.Take, N: 2})
			if r.Intn(6) == 0 {
				hear(0, ends[0].tick())
				hear(1, ends[1].tick())
			}
		}
		for end := range 2 {
			if !slices.Equal(asked[end], came[1-end]) || len(asked[end]) == 0 {
				t.Errorf("P16.1: seed %d: end %d asked for %d messages, %d came: %+v", seed, end, len(asked[end]), len(came[1-end]), ends[end].n.Vars())
			}
		}
	}
}
