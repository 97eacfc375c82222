package conn_test

import (
	"slices"
	"strings"
	"testing"

	"polliwog/api"
	"polliwog/conn"
	"polliwog/event"
	"polliwog/pdu"
	"polliwog/rules"
	"polliwog/seq"
)

// handled is the document's table, as it stands there.
const handled = `
| BGN, old | Idle | BGREJ back |
| | Resyncing to Ready | BGAK back |
| BGN, not old | | Heard, and: |
| | Idle | EstablishInd: Incoming |
| | Outgoing | BGAK back; EstablishConf; Ready |
| | Leaving | ReleaseConf; EstablishInd; the timer Stops: Incoming |
| | else | ReleaseInd (user); EstablishInd; the timer Stops: Incoming |
| BGAK, fits | Outgoing | MS is its credit; EstablishConf; Ready |
| BGREJ, fits | Outgoing | ReleaseInd (user, its data); the timer Stops: Idle |
| | Leaving | ReleaseConf; the timer Stops: Idle |
| END | | ENDAK back, and: |
| | Incoming, Resyncing to Ready | ReleaseInd (its Self and data); the timer Stops: Idle |
| | Leaving | ReleaseConf; the timer Stops: Idle |
| ENDAK, fits | Leaving | ReleaseConf; the timer Stops: Idle |
| RS, old | Recovering to Ready | RSAK back |
| RS, not old | | Heard, and: |
| | Resyncing | RSAK back; ResyncConf; Ready |
| | Recovering to Ready | ResyncInd (its data); the timer Stops: Resynced |
| RSAK, fits | Resyncing | MS is its credit; ResyncConf; Ready |
| ER, old | Answered, Ready | ERAK back |
| ER, not old | | Heard, and: |
| | Recovering | ERAK back; RecoverInd; the timer Stops: Answered |
| | Answered | ERAK back |
| | Ready | RecoverInd: Recovered |
| ERAK, fits | Recovering | MS is its credit; RecoverInd; the timer Stops: Answered |
`

var stateNames = []string{"", "Idle", "Outgoing", "Incoming", "Leaving", "Resyncing", "Resynced", "Recovering", "Answered", "Recovered", "Ready"}

// line is one of the table: for which units, in which states, what is done.
type line struct{ unit, states, deeds string }

// lines are those of the table, each with its unit.
func lines() []line {
	var l []line
	unit := ""
	for _, s := range strings.Split(strings.TrimSpace(handled), "\n") {
		parts := strings.Split(s, "|")
		if x := strings.TrimSpace(parts[1]); x != "" {
			unit = x
		}
		l = append(l, line{unit, strings.TrimSpace(parts[2]), strings.TrimSpace(parts[3])})
	}
	return l
}

// table is those lines.
var table = lines()

// in tells whether a state is one of those that are named.
func in(state int, states string) bool {
	for _, part := range strings.Split(states, ", ") {
		from, to, isRange := strings.Cut(part, " to ")
		if !isRange {
			to = from
		}
		if state >= slices.Index(stateNames, from) && state <= slices.Index(stateNames, to) && slices.Contains(stateNames, from) {
			return true
		}
	}
	return false
}

// model is a connection by the document's words.
type model struct {
	most, state, sq, peer, cc int
	credit, ms                seq.Num
	data                      string
	r                         conn.Result
}

// made is a connection, and its model.
func made(most int, credit seq.Num) (*conn.Conn, *model) {
	low := credit % (1 << 24)
	return conn.New(conn.Config{Most: most, Credit: credit}),
		&model{most: min(max(most, 1), 16), state: 1, peer: -1, credit: low, ms: low}
}

func (m *model) out(p pdu.PDU)      { m.r.Units = append(m.r.Units, p) }
func (m *model) say(s event.Signal) { m.r.Signals = append(m.r.Signals, s) }
func (m *model) report(letter byte) { m.say(event.Signal{Kind: event.Report, Code: letter}) }
func (m *model) release(self bool, s string) {
	m.say(event.Signal{Kind: event.ReleaseInd, Self: self, Data: s})
}
func (m *model) endSelf()        { m.out(pdu.PDU{Kind: pdu.END, SQ: m.sq, Self: true}) }
func (m *model) timer(does int)  { m.r.Timer = does }
func (m *model) enter(state int) { m.state = state }
func (m *model) endUser()        { m.out(pdu.PDU{Kind: pdu.END, SQ: m.sq, Data: m.data}) }
func (m *model) beginOut(kind int, s string) {
	m.out(pdu.PDU{Kind: kind, SQ: m.sq, N: m.credit, Data: s})
	m.timer(conn.Starts)
}

func (m *model) begin(kind int, data string, state int) {
	m.sq++
	if m.sq == 256 {
		m.sq = 0
	}
	m.cc, m.data = 1, data
	m.beginOut(kind, data)
	m.enter(state)
}

func (m *model) ready() {
	m.r.Begins, m.r.MS = true, m.ms
	m.timer(conn.Stops)
	m.enter(rules.Ready)
}

// result takes what a call brought.
func (m *model) result(was int) conn.Result {
	r := m.r
	m.r = conn.Result{}
	r.Ends = was == rules.Ready && m.state != rules.Ready
	return r
}

func (m *model) request(kind int, data string) (conn.Result, api.Errno) {
	was := m.state
	switch {
	case kind < 1 || kind > 6:
		return conn.Result{}, api.ErrKind
	case (kind == event.Establish || kind == event.Release || kind == event.Resync) && len(data) > 64:
		return conn.Result{}, api.ErrBig
	case !rules.May(m.state, kind):
		return conn.Result{}, api.ErrState
	}
	switch kind {
	case event.Establish:
		m.begin(pdu.BGN, data, rules.Outgoing)
	case event.Accept:
		m.out(pdu.PDU{Kind: pdu.BGAK, SQ: m.peer, N: m.credit})
		m.ready()
	case event.Release:
		if m.state == rules.Incoming {
			m.out(pdu.PDU{Kind: pdu.BGREJ, SQ: m.peer, Data: data})
			m.enter(rules.Idle)
			break
		}
		m.cc, m.data = 1, data
		m.endUser()
		m.timer(conn.Starts)
		m.enter(rules.Leaving)
	case event.Resync:
		m.begin(pdu.RS, data, rules.Resyncing)
	case event.Resynced:
		m.out(pdu.PDU{Kind: pdu.RSAK, SQ: m.peer, N: m.credit})
		m.ready()
	case event.Recovered:
		if m.state == rules.Recovered {
			m.out(pdu.PDU{Kind: pdu.ERAK, SQ: m.peer, N: m.credit})
		}
		m.ready()
	}
	return m.result(was), api.OK
}

func (m *model) receive(p pdu.PDU) conn.Result {
	was := m.state
	switch rules.Of(m.state, p.Kind) {
	case rules.Handle:
		m.handle(p)
	case rules.Wrong:
		m.report(rules.Letter(p.Kind))
	case rules.Refuse:
		m.report(rules.Letter(p.Kind))
		m.endSelf()
	case rules.Fall:
		m.report(rules.Letter(p.Kind))
		m.release(true, "")
		m.timer(conn.Stops)
		m.enter(rules.Idle)
	}
	return m.result(was)
}

// handle does what the table's lines say, by what it was ahead of the unit.
func (m *model) handle(p pdu.PDU) {
	word := strings.ToUpper(p.Name())
	names := []string{word}
	if p.SQ == m.peer {
		names = append(names, word+", old")
	} else {
		names = append(names, word+", not old")
	}
	if p.SQ == m.sq {
		names = append(names, word+", fits")
	}
	state, done := m.state, false
	for _, l := range table {
		if !slices.Contains(names, l.unit) {
			continue
		}
		here := in(state, l.states) || l.states == "else" && !done
		done = done || here
		if here || l.states == "" {
			m.do(strings.TrimSuffix(l.deeds, ", and:"), p)
		}
	}
}

// do does the deeds of a line.
func (m *model) do(deeds string, p pdu.PDU) {
	deeds, state, _ := strings.Cut(deeds, ": ")
	for _, deed := range strings.Split(deeds, "; ") {
		m.deed(deed, p)
	}
	if state != "" {
		m.enter(slices.Index(stateNames, state))
	}
}

// deed does one deed.
func (m *model) deed(deed string, p pdu.PDU) {
	simple := map[string]int{"EstablishConf": event.EstablishConf, "ReleaseConf": event.ReleaseConf, "ResyncConf": event.ResyncConf, "RecoverInd": event.RecoverInd}
	plain := map[string]int{"BGREJ back": pdu.BGREJ, "ENDAK back": pdu.ENDAK}
	credit := map[string]int{"BGAK back": pdu.BGAK, "RSAK back": pdu.RSAK, "ERAK back": pdu.ERAK}
	switch {
	case simple[deed] > 0:
		m.say(event.Signal{Kind: simple[deed]})
	case plain[deed] > 0:
		m.out(pdu.PDU{Kind: plain[deed], SQ: p.SQ})
	case credit[deed] > 0:
		m.out(pdu.PDU{Kind: credit[deed], SQ: p.SQ, N: m.credit})
	case deed == "Heard":
		m.peer, m.ms = p.SQ, p.N
	case deed == "MS is its credit":
		m.ms = p.N
	case deed == "Ready":
		m.ready()
	case deed == "the timer Stops":
		m.timer(conn.Stops)
	case deed == "EstablishInd":
		m.say(event.Signal{Kind: event.EstablishInd, Data: p.Data})
	case deed == "ResyncInd (its data)":
		m.say(event.Signal{Kind: event.ResyncInd, Data: p.Data})
	case deed == "ReleaseInd (user)":
		m.release(false, "")
	case deed == "ReleaseInd (user, its data)":
		m.release(false, p.Data)
	case deed == "ReleaseInd (its Self and data)":
		m.release(p.Self, p.Data)
	default:
		panic("the table has " + deed)
	}
}

func (m *model) expire() conn.Result {
	was := m.state
	kind := map[int]int{rules.Outgoing: pdu.BGN, rules.Leaving: pdu.END, rules.Resyncing: pdu.RS, rules.Recovering: pdu.ER}[was]
	switch {
	case kind == 0:
	case m.cc >= m.most:
		m.report('O')
		if was == rules.Leaving {
			m.say(event.Signal{Kind: event.ReleaseConf})
		} else {
			m.endSelf()
			m.release(true, "")
		}
		m.timer(conn.Stops)
		m.enter(rules.Idle)
	case kind == pdu.END:
		m.cc++
		m.endUser()
		m.timer(conn.Starts)
	default:
		m.cc++
		m.beginOut(kind, m.data)
	}
	return m.result(was)
}

func (m *model) fail(code byte) conn.Result {
	was := m.state
	if was == rules.Ready {
		m.report(code)
		m.begin(pdu.ER, "", rules.Recovering)
	}
	return m.result(was)
}

func (m *model) silent() conn.Result {
	was := m.state
	if was == rules.Ready {
		m.report('P')
		m.endSelf()
		m.release(true, "")
		m.enter(rules.Idle)
	}
	return m.result(was)
}

func (m *model) vars() conn.Vars {
	return conn.Vars{State: m.state, SQ: m.sq, Peer: m.peer, CC: m.cc, MS: m.ms}
}

func (m *model) clone() *model {
	c := *m
	return &c
}

// sameUnit holds two units against each other.
func sameUnit(a, b pdu.PDU) bool {
	return a.Kind == b.Kind && a.SQ == b.SQ && a.N == b.N && a.PS == b.PS && a.MR == b.MR && a.Self == b.Self && a.Data == b.Data &&
		len(a.List) == 0 && len(b.List) == 0
}

// same holds two results against each other.
func same(a, b conn.Result) bool {
	return slices.Equal(a.Signals, b.Signals) && slices.EqualFunc(a.Units, b.Units, sameUnit) &&
		a.Begins == b.Begins && a.Ends == b.Ends && a.MS == b.MS && a.Timer == b.Timer
}

// check holds what a call brought, and what there is now, against the model's.
func check(t *testing.T, what string, c *conn.Conn, m *model, got, want conn.Result) {
	t.Helper()
	if !same(got, want) {
		t.Fatalf("P14.1: %s brings\n%+v, want\n%+v", what, got, want)
	}
	if v := c.Vars(); v != m.vars() {
		t.Fatalf("P14.1: behind %s: %+v, want %+v", what, v, m.vars())
	}
	if got.Signals != nil && len(got.Signals) == 0 || got.Units != nil && len(got.Units) == 0 {
		t.Fatalf("P14.1: %s brings lists of none", what)
	}
	for _, p := range got.Units {
		if p.Check() != api.OK {
			t.Fatalf("P14.1: %s has %+v go out, which may not be", what, p)
		}
	}
}
