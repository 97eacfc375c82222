package send_test

import (
	"math/rand"
	"slices"
	"testing"

	"polliwog/api"
	"polliwog/send"
	"polliwog/seq"
)

const (
	modulus = 1 << 24
	half    = 1 << 23
)

// far is how far y is from x, by a remainder.
func far(x, y seq.Num) int { return ((int(y)-int(x))%modulus + modulus) % modulus }

// unit is a message that went out.
type unit struct {
	message string
	ps      int
	again   bool
}

// model is a sender by all that ever went out; its numbers count on from
// start, and don't go round.
type model struct {
	start         seq.Num
	queue, polls  int
	units         []unit
	a, ms, ps, pa int
	out           int
	waiting       []string
}

func (m *model) number(n int) seq.Num { return seq.Num((int(m.start) + n) % modulus) }

func (m *model) open(ms seq.Num) {
	d := far(m.number(m.a), ms)
	if d <= half && m.a+d >= m.ms {
		m.ms = m.a + d
	}
}

func (m *model) put(s string) api.Errno {
	if len(m.waiting) == m.queue {
		return api.ErrFull
	}
	m.waiting = append(m.waiting, s)
	return api.OK
}

// again is the places that are to go again.
func (m *model) again() []int {
	var l []int
	for i := m.a; i < len(m.units); i++ {
		if m.units[i].again {
			l = append(l, i)
		}
	}
	return l
}

func (m *model) next() (seq.Num, string, bool, bool) {
	if l := m.again(); len(l) > 0 {
		u := &m.units[l[0]]
		u.again, u.ps = false, m.ps
		m.out++
		return m.number(l[0]), u.message, false, true
	}
	if len(m.waiting) == 0 || len(m.units) == m.ms {
		return 0, "", false, false
	}
	s := m.waiting[0]
	m.waiting = m.waiting[1:]
	m.units = append(m.units, unit{s, m.ps, false})
	m.out++
	return m.number(len(m.units) - 1), s, true, true
}

func (m *model) poll() (seq.Num, seq.Num) {
	m.ps++
	m.out = 0
	return m.number(m.ps), m.number(len(m.units))
}

// named is the place of r, and the places that a list names, if both can be.
func (m *model) named(r seq.Num, l []seq.Num) (int, []int, bool) {
	a := m.a + far(m.number(m.a), r)
	if a > len(m.units) || len(l)%2 == 1 {
		return 0, nil, false
	}
	var places []int
	last := a - 1
	for i, x := range l {
		place := a + far(r, x)
		if place <= last || place > len(m.units) {
			return 0, nil, false
		}
		if i%2 == 1 {
			for p := last; p < place; p++ {
				places = append(places, p)
			}
		}
		last = place
	}
	return a, places, true
}

// accept makes those places go again that aren't to and are fit.
func (m *model) accept(a int, mr seq.Num, places []int, fit func(u unit) bool) int {
	m.a = a
	m.open(mr)
	n := 0
	for _, p := range places {
		if u := &m.units[p]; !u.again && fit(*u) {
			u.again = true
			n++
		}
	}
	return n
}

func (m *model) stat(r, mr, ps seq.Num, l []seq.Num) (int, api.Errno) {
	pa := m.pa + far(m.number(m.pa), ps)
	if pa > m.ps {
		return 0, api.ErrStat
	}
	a, places, ok := m.named(r, l)
	if !ok {
		return 0, api.ErrList
	}
	m.pa = pa
	return m.accept(a, mr, places, func(u unit) bool { return pa > u.ps && pa-u.ps < half }), api.OK
}

func (m *model) ustat(r, mr seq.Num, l []seq.Num) (int, api.Errno) {
	a, places, ok := m.named(r, l)
	if !ok {
		return 0, api.ErrGap
	}
	return m.accept(a, mr, places, func(unit) bool { return true }), api.OK
}

func (m *model) left() []string {
	var l []string
	for _, u := range m.units[m.a:] {
		l = append(l, u.message)
	}
	return append(l, m.waiting...)
}

func (m *model) vars() send.Vars {
	v := send.Vars{
		S: m.number(len(m.units)), A: m.number(m.a), MS: m.number(m.ms), PS: m.number(m.ps), PA: m.number(m.pa),
		Polls: m.out, Queued: len(m.waiting), Kept: len(m.units) - m.a,
	}
	for _, p := range m.again() {
		v.Again = append(v.Again, m.number(p))
	}
	return v
}

func (m *model) clone() *model {
	c := *m
	c.units, c.waiting = slices.Clone(m.units), slices.Clone(m.waiting)
	return &c
}

// same holds two senders' numbers against each other.
func same(v, w send.Vars) bool {
	a, b := v.Again, w.Again
	v.Again, w.Again = nil, nil
	return v.S == w.S && v.A == w.A && v.MS == w.MS && v.PS == w.PS && v.PA == w.PA &&
		v.Polls == w.Polls && v.Queued == w.Queued && v.Kept == w.Kept && slices.Equal(a, b)
}

// check asks a sender all that can be asked without changing it.
func check(t *testing.T, s *send.Send, m *model) {
	t.Helper()
	v := s.Vars()
	if want := m.vars(); !same(v, want) {
		t.Fatalf("P11.1: Vars = %+v, want %+v", v, want)
	}
	if got := s.Left(); !slices.Equal(got, m.left()) {
		t.Fatalf("P11.1: Left = %q, want %q", got, m.left())
	}
	if got, want := s.Idle(), len(m.left()) == 0; got != want {
		t.Fatalf("P11.1: Idle = %v at %+v", got, v)
	}
	if got, want := s.Lacks(), len(m.waiting) > 0 && len(m.units) == m.ms; got != want {
		t.Fatalf("P11.1: Lacks = %v at %+v", got, v)
	}
	if got, want := s.Due(), m.out >= m.polls; got != want {
		t.Fatalf("P11.1: Due = %v behind %d units of %d", got, m.out, m.polls)
	}
	if aToS, aToMS := far(v.A, v.S), far(v.A, v.MS); aToS > aToMS || aToMS > half || v.Kept != aToS {
		t.Fatalf("P11.2: A to S %d, A to MS %d, kept %d", aToS, aToMS, v.Kept)
	}
}

// next has what goes out next of both, and answers it.
func next(t *testing.T, s *send.Send, m *model) (seq.Num, bool, bool) {
	t.Helper()
	n, text, isNew, ok := s.Next()
	wantN, wantText, wantNew, wantOK := m.next()
	if n != wantN || text != wantText || isNew != wantNew || ok != wantOK {
		t.Fatalf("P11.1: Next = %d, %q, %v, %v, want %d, %q, %v, %v", n, text, isNew, ok, wantN, wantText, wantNew, wantOK)
	}
	return n, isNew, ok
}

// more is x with any bits ahead of the lowest 24.
func more(r *rand.Rand, x seq.Num) seq.Num {
	if r.Intn(3) > 0 {
		return x
	}
	return x + seq.Num(r.Intn(256))*modulus
}

// list is a List from r's place a on, up to S; at times one that can't be.
func (m *model) list(r *rand.Rand, a int) []seq.Num {
	var places []int
	size := max(len(m.units)-a, 0)
	for range r.Intn(7) {
		places = append(places, a+r.Intn(size+1))
	}
	slices.Sort(places)
	places = slices.Compact(places)
	if r.Intn(6) > 0 {
		places = places[:len(places)&^1]
	} else if len(places) > 0 {
		places[r.Intn(len(places))] += r.Intn(5) - 2
	}
	var l []seq.Num
	for _, p := range places {
		l = append(l, more(r, seq.Of(int(m.start)+p)))
	}
	return l
}

// somewhere is a number of a place from low to high, at times a bit beside.
func (m *model) somewhere(r *rand.Rand, low, high int) (int, seq.Num) {
	p := low + r.Intn(high-low+1)
	if r.Intn(8) == 0 {
		p = low - 2 + r.Intn(high-low+5)
	}
	return p, more(r, seq.Of(int(m.start)+p))
}
