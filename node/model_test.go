package node_test

import (
	"polliwog/api"
	"polliwog/conn"
	"polliwog/event"
	"polliwog/node"
	"polliwog/pace"
	"polliwog/pdu"
	"polliwog/recv"
	"polliwog/rules"
	"polliwog/send"
	"polliwog/seq"
)

// model is an end as the document tells it, sentence by sentence, of the layers
// below it; all stands side by side, and is none or false where it isn't.
type model struct {
	c              node.Config
	conn           *conn.Conn
	pace           *pace.Pace
	send           *send.Send
	recv           *recv.Recv
	control, units []pdu.PDU
	left           []string
	poll, stat     bool
	statFor        seq.Num
	lacked         bool
}

func newModel(c node.Config) *model {
	p, err := pace.New(c.Pace)
	if err != api.OK {
		panic("ticks that may not be")
	}
	return &model{c: c, conn: conn.New(conn.Config{Most: c.Most, Credit: c.Start.Add(c.Window)}), pace: p}
}

func (m *model) state() int { return m.conn.Vars().State }

func (m *model) ready() bool { return m.state() == rules.Ready }

// result is what a connection's Result brings.
func (m *model) result(r conn.Result) []event.Signal {
	for _, u := range r.Units {
		var row []pdu.PDU
		for _, x := range m.control {
			if x.Kind != u.Kind {
				row = append(row, x)
			}
		}
		m.control = append(row, u)
	}
	if r.Timer == conn.Starts {
		m.pace.Again()
	}
	if r.Timer == conn.Stops {
		m.pace.Enough()
	}
	if r.Ends {
		m.pace.End()
		m.left = m.send.Left()
		m.send, m.recv = nil, nil
		m.poll, m.stat = false, false
	}
	if r.Begins {
		m.send, m.recv = send.New(m.c.Start, m.c.Queue, m.c.Polls), recv.New(m.c.Start, m.c.Window)
		m.send.Open(r.MS)
		m.pace.Begin()
		m.poll, m.stat = false, false
	}
	return r.Signals
}

// behind is what is told behind each request, unit and tick.
func (m *model) behind(l []event.Signal) []event.Signal {
	lacks := m.send != nil && m.send.Lacks()
	if lacks && !m.lacked {
		l = append(l, event.Signal{Kind: event.Report, Code: 'W'})
	}
	if !lacks && m.lacked && m.ready() {
		l = append(l, event.Signal{Kind: event.Report, Code: 'X'})
	}
	m.lacked = lacks
	return l
}

func (m *model) request(r event.Request) ([]event.Signal, api.Errno) {
	if err := r.Check(); err != api.OK {
		return nil, err
	}
	if !rules.May(m.state(), r.Kind) {
		return nil, api.ErrState
	}
	var l []event.Signal
	switch r.Kind {
	case event.Data:
		if err := m.send.Put(r.Data); err != api.OK {
			return nil, err
		}
		m.pace.Busy()
	case event.Unit, event.Manage:
		if len(m.units) == m.c.Units {
			return nil, api.ErrFull
		}
		m.units = append(m.units, pdu.PDU{Kind: map[int]int{event.Unit: pdu.UD, event.Manage: pdu.MD}[r.Kind], Data: r.Data})
	case event.Take:
		if m.ready() {
			m.recv.Take(r.N)
		}
	case event.Retrieve:
		for _, x := range m.left {
			l = append(l, event.Signal{Kind: event.Retrieved, Data: x})
		}
		m.left = nil
	default:
		got, err := m.conn.Request(r.Kind, r.Data)
		if err != api.OK {
			return nil, err
		}
		l = m.result(got)
	}
	return m.behind(l), api.OK
}

func (m *model) receive(u pdu.PDU) []event.Signal {
	var l []event.Signal
	count := func(n int) {
		if n > 0 {
			l = append(l, event.Signal{Kind: event.Report, Code: 'V', N: n})
		}
	}
	inReady := func(kind int) bool { return m.ready() && u.Kind == kind }
	switch {
	case u.Kind == pdu.UD:
		l = append(l, event.Signal{Kind: event.UnitInd, Data: u.Data})
	case u.Kind == pdu.MD:
		l = append(l, event.Signal{Kind: event.ManageInd, Data: u.Data})
	case inReady(pdu.SD):
		for _, x := range m.recv.Data(u.N, u.Data) {
			l = append(l, event.Signal{Kind: event.DataInd, Data: x})
		}
	case inReady(pdu.POLL):
		if m.recv.Poll(u.N) != api.OK {
			l = m.result(m.conn.Fail('Q'))
		} else {
			m.stat, m.statFor = true, u.PS
		}
	case inReady(pdu.STAT):
		n, err := m.send.Stat(u.N, u.MR, u.PS, u.List)
		if err == api.ErrStat {
			l = m.result(m.conn.Fail('R'))
		} else if err == api.ErrList {
			l = m.result(m.conn.Fail('S'))
		} else {
			count(n)
			m.pace.Answered(m.send.Idle())
		}
	case inReady(pdu.USTAT):
		n, err := m.send.Ustat(u.N, u.MR, u.List)
		if err != api.OK {
			l = m.result(m.conn.Fail('T'))
		} else {
			count(n)
		}
	default:
		l = m.result(m.conn.Receive(u))
	}
	return m.behind(l)
}

func (m *model) tick() []event.Signal {
	var l []event.Signal
	for _, t := range m.pace.Tick() {
		switch t {
		case 0:
			l = append(l, m.result(m.conn.Expire())...)
		case 3:
			l = append(l, m.result(m.conn.Silent())...)
		default:
			m.poll = m.ready()
		}
	}
	return m.behind(l)
}

func (m *model) next() (pdu.PDU, bool) {
	for _, row := range []*[]pdu.PDU{&m.control, &m.units} {
		if l := *row; len(l) > 0 {
			*row = append([]pdu.PDU(nil), l[1:]...)
			return l[0], true
		}
	}
	if !m.ready() {
		return pdu.PDU{}, false
	}
	if m.stat {
		m.stat = false
		l, r, mr := m.recv.Stat()
		return pdu.PDU{Kind: pdu.STAT, N: r, PS: m.statFor, MR: mr, List: l}, true
	}
	if l, r, mr, ok := m.recv.Gap(); ok {
		return pdu.PDU{Kind: pdu.USTAT, N: r, MR: mr, List: l}, true
	}
	if m.poll || m.send.Due() {
		m.poll = false
		ps, s := m.send.Poll()
		m.pace.Polled(m.send.Idle())
		return pdu.PDU{Kind: pdu.POLL, N: s, PS: ps}, true
	}
	if n, x, _, ok := m.send.Next(); ok {
		return pdu.PDU{Kind: pdu.SD, N: n, Data: x}, true
	}
	return pdu.PDU{}, false
}

func (m *model) vars() node.Vars {
	v := node.Vars{Conn: m.conn.Vars(), Control: len(m.control), Units: len(m.units), Left: len(m.left), PollDue: m.poll, StatDue: m.stat, Lacks: m.lacked}
	if m.ready() {
		v.Send, v.Recv = m.send.Vars(), m.recv.Vars()
	}
	for i := range 5 {
		v.Timers[i] = m.pace.Left(i)
	}
	return v
}

func (m *model) quiet() bool {
	rows := len(m.control) == 0 && len(m.units) == 0
	if !m.ready() {
		return rows
	}
	return rows && m.recv.Vars().Gaps == 0 && !m.poll && !m.stat && m.send.Idle()
}

func (m *model) clone() *model {
	d := *m
	d.conn, d.pace = m.conn.Clone(), m.pace.Clone()
	d.control, d.units = append([]pdu.PDU(nil), m.control...), append([]pdu.PDU(nil), m.units...)
	d.left = append([]string(nil), m.left...)
	if m.ready() {
		d.send, d.recv = m.send.Clone(), m.recv.Clone()
	}
	return &d
}
