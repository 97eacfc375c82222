package recv_test

import (
	"math/rand"
	"slices"
	"testing"

	"polliwog/api"
	"polliwog/recv"
	"polliwog/seq"
)

const (
	modulus = 1 << 24
	half    = 1 << 23
)

// far is how far y is from x, by a remainder.
func far(x, y seq.Num) int { return ((int(y)-int(x))%modulus + modulus) % modulus }

// model is a receiver by all that ever came; its numbers count on from start,
// and don't go round.
type model struct {
	start    seq.Num
	window   int
	r, h, mr int
	came     map[int]string // each as it came first
	taken    int
	gaps     [][2]int
}

// made is a receiver and its model.
func made(start seq.Num, window int) (*recv.Recv, *model) {
	w := min(max(window, 1), 64)
	return recv.New(start, window), &model{start: start % modulus, window: w, mr: w, came: map[int]string{}}
}

func (m *model) number(place int) seq.Num {
	return seq.Num(((int(m.start)+place)%modulus + modulus) % modulus)
}

func (m *model) place(n seq.Num) int { return m.r + far(m.number(m.r), n) }

// texts is what came from one place on, ahead of another one.
func (m *model) texts(from, to int) []string {
	var l []string
	for p := from; p < to; p++ {
		l = append(l, m.came[p])
	}
	return l
}

func (m *model) data(n seq.Num, text string) []string {
	p := m.place(n)
	if _, twice := m.came[p]; twice || p >= m.mr {
		return nil
	}
	m.came[p] = text
	switch {
	case p > m.h:
		if len(m.gaps) < 8 {
			m.gaps = append(m.gaps, [2]int{m.h, p})
		}
		m.h = p + 1
	case p == m.h:
		m.h++
	}
	was := m.r
	for {
		if _, there := m.came[m.r]; !there {
			return m.texts(was, m.r)
		}
		m.r++
	}
}

func (m *model) poll(s seq.Num) api.Errno {
	p := m.place(s)
	if p < m.h || p > m.mr {
		return api.ErrPoll
	}
	m.h = p
	return api.OK
}

// missing is the pairs of what didn't come, from one place on, ahead of another one.
func (m *model) missing(from, to int) []seq.Num {
	var l []seq.Num
	was := true
	for p := from; p <= to; p++ {
		_, there := m.came[p]
		there = there || p == to
		if there != was {
			l = append(l, m.number(p))
		}
		was = there
	}
	return l
}

func (m *model) renew() {
	m.mr = max(m.mr, m.r+m.window-(m.r-m.taken))
}

func (m *model) stat() ([]seq.Num, seq.Num, seq.Num) {
	m.renew()
	return m.missing(m.r, m.h), m.number(m.r), m.number(m.mr)
}

func (m *model) gap() ([]seq.Num, seq.Num, seq.Num, bool) {
	for len(m.gaps) > 0 {
		g := m.gaps[0]
		m.gaps = m.gaps[1:]
		if l := m.missing(g[0], g[1]); len(l) > 0 {
			m.renew()
			return l[:2], m.number(m.r), m.number(m.mr), true
		}
	}
	return nil, 0, 0, false
}

func (m *model) take(n int) []string {
	n = min(max(n, 0), m.r-m.taken)
	m.taken += n
	return m.texts(m.taken-n, m.taken)
}

func (m *model) vars() recv.Vars {
	v := recv.Vars{R: m.number(m.r), H: m.number(m.h), MR: m.number(m.mr), Inbox: m.r - m.taken, Gaps: len(m.gaps)}
	for p := m.r; p < m.h; p++ {
		if _, there := m.came[p]; there {
			v.Buffered++
		}
	}
	return v
}

func (m *model) clone() *model {
	c := *m
	c.came, c.gaps = map[int]string{}, slices.Clone(m.gaps)
	for p, text := range m.came {
		c.came[p] = text
	}
	return &c
}

// check asks a receiver what can be asked without changing it.
func check(t *testing.T, r *recv.Recv, m *model) {
	t.Helper()
	v := r.Vars()
	if want := m.vars(); v != want {
		t.Fatalf("P12.1: Vars = %+v, want %+v", v, want)
	}
	rToH, rToMR := far(v.R, v.H), far(v.R, v.MR)
	if rToH > rToMR || rToMR > m.window || v.Buffered+v.Inbox > m.window || v.Gaps > 8 {
		t.Fatalf("P12.2: R to H %d, R to MR %d of %d, %+v", rToH, rToMR, m.window, v)
	}
}

// The calls of both, each held against the other one.

func data(t *testing.T, r *recv.Recv, m *model, n seq.Num, text string) []string {
	t.Helper()
	got := r.Data(n, text)
	if want := m.data(n, text); !slices.Equal(got, want) {
		t.Fatalf("P12.3: Data(%d, %q) = %q, want %q", n, text, got, want)
	}
	check(t, r, m)
	return got
}

func poll(t *testing.T, r *recv.Recv, m *model, s seq.Num) api.Errno {
	t.Helper()
	got := r.Poll(s)
	if want := m.poll(s); got != want {
		t.Fatalf("P12.1: Poll(%d) = %d, want %d", s, got, want)
	}
	check(t, r, m)
	return got
}

func stat(t *testing.T, r *recv.Recv, m *model) []seq.Num {
	t.Helper()
	l, next, most := r.Stat()
	wantL, wantNext, wantMost := m.stat()
	if !slices.Equal(l, wantL) || next != wantNext || most != wantMost {
		t.Fatalf("P12.4: Stat = %v, %d, %d, want %v, %d, %d", l, next, most, wantL, wantNext, wantMost)
	}
	check(t, r, m)
	return l
}

func gap(t *testing.T, r *recv.Recv, m *model) ([]seq.Num, bool) {
	t.Helper()
	l, next, most, ok := r.Gap()
	wantL, wantNext, wantMost, wantOK := m.gap()
	if !slices.Equal(l, wantL) || next != wantNext || most != wantMost || ok != wantOK {
		t.Fatalf("P12.4: Gap = %v, %d, %d, %v, want %v, %d, %d, %v", l, next, most, ok, wantL, wantNext, wantMost, wantOK)
	}
	check(t, r, m)
	return l, ok
}

func take(t *testing.T, r *recv.Recv, m *model, n int) []string {
	t.Helper()
	got := r.Take(n)
	if want := m.take(n); !slices.Equal(got, want) {
		t.Fatalf("P12.3: Take(%d) = %q, want %q", n, got, want)
	}
	check(t, r, m)
	return got
}

// any is the number of a place that is drawn from the window, at times from
// beside it, at times with more bits.
func (m *model) any(r *rand.Rand) seq.Num {
	p := m.r + r.Intn(m.mr-m.r+1)
	switch r.Intn(12) {
	case 0:
		p = m.r - 3 + r.Intn(m.window+6)
	case 1:
		p = r.Intn(modulus)
	case 2, 3, 4:
		p = m.h + r.Intn(3)
	}
	return m.number(p) + seq.Num(max(r.Intn(768)-512, 0))*modulus
}
