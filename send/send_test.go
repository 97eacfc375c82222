package send_test

import (
	"math"
	"math/rand"
	"slices"
	"strconv"
	"testing"

	"polliwog/api"
	"polliwog/send"
	"polliwog/seq"
)

// starts are such as a sender begins with, some of them with more than 24 bits.
var starts = []seq.Num{0, 1, 7, half - 3, half, modulus - 9, modulus - 2, modulus - 1, modulus, modulus + 5, math.MaxUint32 - 3, math.MaxUint32}

// made is a sender and its model.
func made(start seq.Num, queue, polls int) (*send.Send, *model) {
	return send.New(start, queue, polls), &model{start: start % modulus, queue: min(max(queue, 1), 256), polls: min(max(polls, 1), 256)}
}

// out is a sender of which n units went out, messages 0, 1 and so on, with
// room for more.
func out(t *testing.T, start seq.Num, n int) (*send.Send, *model) {
	t.Helper()
	s, m := made(start, 256, 8)
	s.Open(m.number(n + 100))
	m.open(m.number(n + 100))
	for i := range n {
		s.Put(strconv.Itoa(i))
		m.put(strconv.Itoa(i))
		next(t, s, m)
	}
	check(t, s, m)
	return s, m
}

// poll has a poll of both.
func poll(t *testing.T, s *send.Send, m *model) {
	t.Helper()
	ps, n := s.Poll()
	if wantPS, wantN := m.poll(); ps != wantPS || n != wantN {
		t.Fatalf("P11.1: Poll = %d, %d, want %d, %d", ps, n, wantPS, wantN)
	}
}

// stat hands both a STAT, whose numbers are places, and looks what it does.
func stat(t *testing.T, s *send.Send, m *model, r, mr, ps int, l ...int) (int, api.Errno) {
	t.Helper()
	n, err := s.Stat(at(m, r), at(m, mr), at(m, ps), numbers(m, l))
	wantN, wantErr := m.stat(at(m, r), at(m, mr), at(m, ps), numbers(m, l))
	if n != wantN || err != wantErr {
		t.Fatalf("P11.1: Stat of %d, %d, %d, %v = %d, %d, want %d, %d", r, mr, ps, l, n, err, wantN, wantErr)
	}
	check(t, s, m)
	return n, err
}

// ustat hands both a USTAT, likewise.
func ustat(t *testing.T, s *send.Send, m *model, r, mr int, l ...int) (int, api.Errno) {
	t.Helper()
	n, err := s.Ustat(at(m, r), at(m, mr), numbers(m, l))
	wantN, wantErr := m.ustat(at(m, r), at(m, mr), numbers(m, l))
	if n != wantN || err != wantErr {
		t.Fatalf("P11.1: Ustat of %d, %d, %v = %d, %d, want %d, %d", r, mr, l, n, err, wantN, wantErr)
	}
	check(t, s, m)
	return n, err
}

// at is the number of a place, also of one below 0.
func at(m *model, place int) seq.Num {
	return seq.Num(((int(m.start)+place)%modulus + modulus) % modulus)
}

func numbers(m *model, places []int) []seq.Num {
	var l []seq.Num
	for _, p := range places {
		l = append(l, at(m, p))
	}
	return l
}

func TestExample(t *testing.T) {
	s := send.New(0, 8, 8)
	s.Open(2)
	for _, m := range []string{"a", "b", "c"} {
		if err := s.Put(m); err != api.OK {
			t.Fatalf("P11.1: Put(%q) = %d", m, err)
		}
	}
	for i, want := range []string{"a", "b"} {
		if n, m, isNew, ok := s.Next(); n != seq.Num(i) || m != want || !isNew || !ok {
			t.Errorf("P11.1: Next = %d, %q, %v, %v", n, m, isNew, ok)
		}
	}
	for range 3 {
		if n, m, isNew, ok := s.Next(); n != 0 || m != "" || isNew || ok || !s.Lacks() {
			t.Errorf("P11.2: Next at MS = %d, %q, %v, %v", n, m, isNew, ok)
		}
	}
	s.Open(3)
	if n, m, isNew, ok := s.Next(); n != 2 || m != "c" || !isNew || !ok {
		t.Errorf("P11.1: Next behind Open = %d, %q, %v, %v", n, m, isNew, ok)
	}
}

func TestNew(t *testing.T) {
	for _, start := range starts {
		s, m := made(start, 5, 6)
		check(t, s, m)
		low := start % modulus
		if v := s.Vars(); v.S != low || v.A != low || v.MS != low || v.PS != low || v.PA != low {
			t.Errorf("P11.1: New(%d): %+v", start, v)
		}
		if _, _, _, ok := s.Next(); ok || !s.Idle() || s.Lacks() || s.Due() {
			t.Errorf("P11.1: New(%d): something goes out, waits or is due", start)
		}
	}
}

// TestRoomIsTheNearest has all edges of queue and polls.
func TestRoomIsTheNearest(t *testing.T) {
	for _, c := range [][2]int{{math.MinInt, 1}, {-1, 1}, {0, 1}, {1, 1}, {2, 2}, {255, 255}, {256, 256}, {257, 256}, {math.MaxInt, 256}} {
		s := send.New(3, c[0], c[0])
		for i := range c[1] {
			if err := s.Put("x"); err != api.OK {
				t.Fatalf("P11.1: Put %d of a queue of %d = %d", i, c[0], err)
			}
		}
		for range 2 {
			if err := s.Put("y"); err != api.ErrFull || s.Vars().Queued != c[1] {
				t.Fatalf("P11.4: Put into a full queue of %d = %d, %d wait", c[0], err, s.Vars().Queued)
			}
		}
		s.Open(3 + 256)
		for i := range c[1] {
			if s.Due() {
				t.Fatalf("P11.1: a poll is due behind %d of %d", i, c[0])
			}
			s.Next()
		}
		if !s.Due() {
			t.Fatalf("P11.1: no poll is due behind %d of %d", c[1], c[0])
		}
	}
}

// TestOpen has credits that are nearer, alike, further, and too far, from A on.
func TestOpen(t *testing.T) {
	for _, start := range starts {
		for _, a := range []int{0, 3} {
			for _, c := range []struct{ first, ms, want int }{
				{5, 5, 5}, {5, 6, 6}, {5, 4, 5}, {5, a, 5}, {5, a - 1, 5}, {5, -9, 5},
				{5, a + half, a + half}, {5, a + half - 1, a + half - 1}, {5, a + half + 1, 5}, {5, a + modulus - 1, 5},
				{a + half, a + half - 1, a + half}, {a + half, a + half, a + half}, {a + half, a + half + 1, a + half}, {a + half, 5, a + half},
			} {
				s, m := made(start, 9, 9)
				s.Open(at(m, 5))
				m.open(at(m, 5))
				for range 4 {
					s.Put("x")
					m.put("x")
					next(t, s, m)
				}
				stat(t, s, m, a, 5, 0)
				s.Open(at(m, c.first))
				m.open(at(m, c.first))
				s.Open(at(m, c.ms) + 5*modulus)
				m.open(at(m, c.ms))
				check(t, s, m)
				if got := s.Vars().MS; got != at(m, c.want) {
					t.Errorf("P11.2: start %d, A %d: Open %d, then %d: MS is %d on", start, a, c.first, c.ms, far(m.start, got))
				}
			}
		}
	}
}

// TestNothingGoesBeyondTheCredit is P11.2 of the numbers that go out.
func TestNothingGoesBeyondTheCredit(t *testing.T) {
	for _, start := range starts {
		for credit := range 9 {
			s, m := made(start, 20, 4)
			s.Open(at(m, credit))
			m.open(at(m, credit))
			for range 12 {
				s.Put("x")
				m.put("x")
			}
			for i := range 12 {
				if _, _, ok := next(t, s, m); ok != (i < credit) {
					t.Fatalf("P11.2: unit %d of a credit of %d: %v", i, credit, ok)
				}
				check(t, s, m)
			}
		}
	}
}

// TestPollIsDue has units, new and old, counted, and a poll that begins anew.
func TestPollIsDue(t *testing.T) {
	s, m := made(modulus-3, 256, 3)
	s.Open(at(m, 40))
	m.open(at(m, 40))
	for i := range 5 {
		s.Put(strconv.Itoa(i))
		m.put(strconv.Itoa(i))
	}
	for _, due := range []bool{false, false, true, true} {
		next(t, s, m)
		check(t, s, m)
		if s.Due() != due {
			t.Errorf("P11.1: Due = %v behind %d", s.Due(), s.Vars().Polls)
		}
	}
	poll(t, s, m)
	check(t, s, m)
	if s.Due() || s.Vars().Polls != 0 {
		t.Errorf("P11.1: behind a poll %d went out", s.Vars().Polls)
	}
	stat(t, s, m, 0, 40, 1, 0, 2)
	for _, due := range []bool{false, false, true} {
		next(t, s, m)
		if s.Due() != due {
			t.Errorf("P11.1: Due = %v behind %d", s.Due(), s.Vars().Polls)
		}
	}
	if _, _, ok := next(t, s, m); ok || s.Vars().Polls != 3 {
		t.Errorf("P11.1: none goes out, %d counted", s.Vars().Polls)
	}
}

// TestPollsOfNothing has polls that go round.
func TestPollsOfNothing(t *testing.T) {
	for _, start := range starts {
		s, m := made(start, 1, 1)
		for range 12 {
			poll(t, s, m)
			check(t, s, m)
		}
		for _, c := range []struct {
			ps  int
			err api.Errno
		}{{13, api.ErrStat}, {-1, api.ErrStat}, {0, api.OK}, {7, api.OK}, {6, api.ErrStat}, {7, api.OK}, {8, api.OK}, {12, api.OK}, {11, api.ErrStat}, {12, api.OK}} {
			if _, err := stat(t, s, m, 0, 0, c.ps); err != c.err {
				t.Errorf("P11.1: Stat of poll %d = %d, want %d", c.ps, err, c.err)
			}
		}
	}
}

// TestStatsThatCantBe is P11.4: of each the error, and that nothing is changed.
func TestStatsThatCantBe(t *testing.T) {
	for _, start := range starts {
		for _, c := range []struct {
			r, ps int
			l     []int
			err   api.Errno
		}{
			{2, 3, nil, api.ErrStat},
			{2, 0, nil, api.ErrStat},
			{2, -1, nil, api.ErrStat},
			{2, half, nil, api.ErrStat},
			{9, 3, []int{1}, api.ErrStat},
			{2, 0, []int{4, 3}, api.ErrStat},
			{1, 2, nil, api.ErrList},
			{7, 2, nil, api.ErrList},
			{half, 2, nil, api.ErrList},
			{2, 2, []int{3}, api.ErrList},
			{2, 1, []int{3, 4, 5}, api.ErrList},
			{2, 2, []int{3, 3}, api.ErrList},
			{2, 2, []int{4, 3}, api.ErrList},
			{2, 2, []int{3, 4, 4, 5}, api.ErrList},
			{2, 2, []int{1, 3}, api.ErrList},
			{3, 2, []int{2, 4}, api.ErrList},
			{2, 2, []int{3, 7}, api.ErrList},
			{2, 2, []int{7, 8}, api.ErrList},
			{2, 2, []int{2, 3, 5, 7}, api.ErrList},
			{6, 2, []int{6, 7}, api.ErrList},
		} {
			s, m := out(t, start, 6)
			poll(t, s, m)
			stat(t, s, m, 2, 50, 1, 3, 4)
			poll(t, s, m)
			before := s.Vars()
			if n, err := stat(t, s, m, c.r, half, c.ps, c.l...); n != 0 || err != c.err || !same(before, s.Vars()) {
				t.Errorf("P11.4: Stat of %d, poll %d, %v = %d, %d, want %d; %+v", c.r, c.ps, c.l, n, err, c.err, s.Vars())
			}
			if c.err == api.ErrStat {
				continue
			}
			if n, err := ustat(t, s, m, c.r, half, c.l...); n != 0 || err != api.ErrGap || !same(before, s.Vars()) {
				t.Errorf("P11.4: Ustat of %d, %v = %d, %d; %+v", c.r, c.l, n, err, s.Vars())
			}
		}
	}
}

// TestStatsThatCan has those at the edges of what can be.
func TestStatsThatCan(t *testing.T) {
	for _, start := range starts {
		for _, c := range []struct {
			r, ps int
			l     []int
			n     int
			again []int
		}{
			{2, 1, nil, 0, nil},
			{2, 2, nil, 0, nil},
			{6, 2, nil, 0, nil},
			{2, 2, []int{2, 6}, 4, []int{2, 3, 4, 5}},
			{2, 1, []int{2, 6}, 4, []int{2, 3, 4, 5}},
			{2, 2, []int{5, 6}, 1, []int{5}},
			{3, 2, []int{3, 4, 5, 6}, 2, []int{3, 5}},
			{5, 2, []int{5, 6}, 1, []int{5}},
		} {
			for _, report := range []string{"stat", "ustat"} {
				s, m := out(t, start, 6)
				poll(t, s, m)
				stat(t, s, m, 2, 50, 1)
				poll(t, s, m)
				n, err, pa := 0, api.OK, c.ps
				if report == "stat" {
					n, err = stat(t, s, m, c.r, 60, c.ps, c.l...)
				} else {
					n, err = ustat(t, s, m, c.r, 60, c.l...)
					pa = 1
				}
				v := s.Vars()
				if n != c.n || err != api.OK || !slices.Equal(v.Again, numbers(m, c.again)) {
					t.Errorf("P11.3: %s of %d, poll %d, %v = %d, %d; again %v", report, c.r, c.ps, c.l, n, err, v.Again)
				}
				if v.A != at(m, c.r) || v.PA != at(m, pa) || v.MS != at(m, 106) || v.Kept != 6-c.r {
					t.Errorf("P11.2: %s of %d, poll %d: %+v", report, c.r, c.ps, v)
				}
			}
		}
	}
}

// TestReportsBringCredit has MR as Open takes it: from the new A on.
func TestReportsBringCredit(t *testing.T) {
	for _, c := range []struct{ r, mr, want int }{{4, 106, 106}, {4, 107, 107}, {4, 105, 106}, {4, 4, 106}, {4, 3, 106}, {4, 4 + half, 4 + half}, {4, 5 + half, 106}, {6, 6 + half, 6 + half}, {0, 1 + half, 106}} {
		for _, start := range starts {
			s, m := out(t, start, 6)
			stat(t, s, m, c.r, c.mr, 0)
			u, n := out(t, start, 6)
			ustat(t, u, n, c.r, c.mr)
			if got := s.Vars().MS; got != at(m, c.want) || u.Vars().MS != got {
				t.Errorf("P11.2: credit %d at %d: MS is %d on, behind Ustat %d", c.mr, c.r, far(m.start, got), far(m.start, u.Vars().MS))
			}
		}
	}
}

// TestGoesAgainByItsPoll is P11.3: a STAT names only what went out ahead of its
// poll, and what isn't to go again yet; a USTAT asks for the latter alone.
func TestGoesAgainByItsPoll(t *testing.T) {
	for _, start := range starts {
		s, m := out(t, start, 3)
		expect := func(what string, n, want int) {
			t.Helper()
			if n != want {
				t.Errorf("P11.3: %s made %d go again, want %d", what, n, want)
			}
		}
		n, _ := stat(t, s, m, 0, 9, 0, 0, 3)
		expect("a STAT without a poll", n, 0)
		poll(t, s, m)
		s.Put("late")
		m.put("late")
		next(t, s, m)
		poll(t, s, m)
		n, _ = stat(t, s, m, 0, 9, 1, 0, 4)
		expect("the answer to poll 1", n, 3)
		n, _ = stat(t, s, m, 0, 9, 1, 0, 4)
		expect("the same once more", n, 0)
		next(t, s, m)
		next(t, s, m)
		n, _ = stat(t, s, m, 0, 9, 2, 0, 4)
		expect("the answer to poll 2", n, 1)
		if v := s.Vars(); !slices.Equal(v.Again, numbers(m, []int{2, 3})) {
			t.Errorf("P11.3: again %v", v.Again)
		}
		n, _ = ustat(t, s, m, 0, 9, 1, 4)
		expect("a USTAT", n, 1)
		n, _ = ustat(t, s, m, 0, 9, 0, 4)
		expect("another USTAT", n, 1)
		for _, want := range []int{0, 1, 2, 3} {
			if n, isNew, ok := next(t, s, m); n != at(m, want) || isNew || !ok {
				t.Errorf("P11.3: %d goes again, want %d", n, at(m, want))
			}
		}
		poll(t, s, m)
		n, _ = stat(t, s, m, 2, 9, 3, 2, 4)
		expect("the answer to poll 3", n, 2)
		stat(t, s, m, 3, 9, 3)
		if n, _, ok := next(t, s, m); n != at(m, 3) || !ok {
			t.Errorf("P11.3: %d goes again, want %d", n, at(m, 3))
		}
		if _, _, ok := next(t, s, m); ok {
			t.Errorf("P11.3: one more goes again")
		}
	}
}

// TestFarPolls has a message that is kept over as many polls as are Ahead.
func TestFarPolls(t *testing.T) {
	s := send.New(modulus-5, 4, 4)
	s.Open(9)
	s.Put("a")
	s.Next()
	list := []seq.Num{modulus - 5, modulus - 4}
	for i := 1; i < half; i++ {
		s.Poll()
	}
	c := s.Clone()
	if n, err := c.Stat(modulus-5, 9, half-6, list); n != 1 || err != api.OK {
		t.Errorf("P11.3: 2^23 - 1 polls later: Stat = %d, %d, want 1", n, err)
	}
	s.Poll()
	if n, err := s.Stat(modulus-5, 9, half-5, list); n != 0 || err != api.OK {
		t.Errorf("P11.3: 2^23 polls later: Stat = %d, %d, want 0", n, err)
	}
}

// TestOldOnesGoFirst has numbers to go again ahead of new ones, also where
// there is no credit.
func TestOldOnesGoFirst(t *testing.T) {
	s, m := made(modulus-2, 9, 9)
	s.Open(at(m, 4))
	m.open(at(m, 4))
	for _, x := range []string{"a", "b", "c", "d", "e"} {
		s.Put(x)
		m.put(x)
	}
	for range 4 {
		next(t, s, m)
	}
	ustat(t, s, m, 0, 4, 3, 4)
	ustat(t, s, m, 0, 4, 1, 2)
	if !s.Lacks() {
		t.Errorf("P11.1: at MS credit isn't lacking")
	}
	for _, want := range []string{"b", "d"} {
		if _, x, isNew, ok := s.Next(); x != want || isNew || !ok {
			t.Errorf("P11.3: %q goes again, want %q", x, want)
		}
		m.next()
		check(t, s, m)
	}
	if _, _, ok := next(t, s, m); ok {
		t.Errorf("P11.2: something goes out at MS")
	}
	ustat(t, s, m, 1, 6, 2, 3)
	for _, want := range []string{"c", "e"} {
		if _, x, _, ok := s.Next(); x != want || !ok {
			t.Errorf("P11.3: %q goes out, want %q", x, want)
		}
	}
}

// TestIdle has nothing that waits or is kept only when all is acknowledged.
func TestIdle(t *testing.T) {
	s, m := made(9, 4, 4)
	s.Open(11)
	m.open(11)
	for _, step := range []func(){
		func() { s.Put("a"); m.put("a") },
		func() { s.Next(); m.next() },
		func() { s.Put("b"); m.put("b") },
		func() { s.Stat(10, 11, 9, nil); m.stat(10, 11, 9, nil) },
		func() { s.Next(); m.next() },
	} {
		step()
		check(t, s, m)
		if s.Idle() {
			t.Errorf("P11.1: Idle at %+v", s.Vars())
		}
	}
	s.Ustat(11, 11, nil)
	m.ustat(11, 11, nil)
	check(t, s, m)
	if !s.Idle() || len(s.Left()) != 0 {
		t.Errorf("P11.1: not Idle at %+v", s.Vars())
	}
}

// TestManyAreKept has more of them than a set's list has numbers.
func TestManyAreKept(t *testing.T) {
	const many = 70000
	const start = modulus - 66000
	s := send.New(start, 1, 1)
	s.Open(many - 66000)
	for i := range many {
		s.Put(strconv.Itoa(i))
		if n, _, _, ok := s.Next(); n != seq.Of(start+i) || !ok {
			t.Fatalf("P11.1: unit %d: %d, %v", i, n, ok)
		}
	}
	s.Poll()
	left := s.Left()
	for i, x := range left {
		if x != strconv.Itoa(i) {
			t.Fatalf("P11.2: Left has %q at %d", x, i)
		}
	}
	if len(left) != many || s.Vars().Kept != many {
		t.Errorf("P11.2: %d left, %d kept, want %d", len(left), s.Vars().Kept, many)
	}
	n, err := s.Stat(start, 0, seq.Of(start+1), []seq.Num{start, many - 66000})
	if n != many || err != api.OK {
		t.Fatalf("P11.3: Stat = %d, %d, want %d", n, err, many)
	}
	for i := range many {
		if n, x, isNew, ok := s.Next(); n != seq.Of(start+i) || x != strconv.Itoa(i) || isNew || !ok {
			t.Fatalf("P11.3: %d, %q, %v, %v goes again, want %d", n, x, isNew, ok, i)
		}
	}
	if n, err := s.Ustat(many-66000, 0, nil); n != 0 || err != api.OK || !s.Idle() {
		t.Errorf("P11.2: Ustat of all = %d, %d, Idle %v", n, err, s.Idle())
	}
}

// reasons keeps by itself why a number may go again: P11.3.
type reasons map[seq.Num]bool

func (l reasons) named(r seq.Num, pairs []seq.Num) {
	for i := 0; i+1 < len(pairs); i += 2 {
		for n := range far(pairs[i], pairs[i+1]) {
			l[seq.Of(int(pairs[i])+n)] = true
		}
	}
}

func (l reasons) goes(t *testing.T, n, a seq.Num, isNew bool) {
	t.Helper()
	if !isNew && !l[n] {
		t.Fatalf("P11.3: %d goes again, and no report named it", n)
	}
	if far(a, n) >= half {
		t.Fatalf("P11.3: %d goes, which is ahead of A, %d", n, a)
	}
	delete(l, n)
}

// step does a drawn thing with both.
func step(t *testing.T, r *rand.Rand, s *send.Send, m *model, why reasons) {
	t.Helper()
	switch r.Intn(12) {
	case 0, 1, 2:
		text := strconv.Itoa(r.Intn(1000))
		if got, want := s.Put(text), m.put(text); got != want {
			t.Fatalf("P11.1: Put = %d, want %d", got, want)
		}
	case 3, 4, 5, 6:
		if n, isNew, ok := next(t, s, m); ok {
			why.goes(t, n, s.Vars().A, isNew)
		}
	case 7:
		poll(t, s, m)
	case 8:
		_, ms := m.somewhere(r, m.a, m.a+20)
		s.Open(ms)
		m.open(ms)
	case 9, 10:
		a, first := m.somewhere(r, m.a, min(m.a+3, len(m.units)))
		_, ps := m.somewhere(r, m.pa, m.ps)
		_, mr := m.somewhere(r, m.a, m.a+20)
		l := m.list(r, a)
		got, err := s.Stat(first, mr, ps, l)
		if want, wantErr := m.stat(first, mr, ps, l); got != want || err != wantErr {
			t.Fatalf("P11.1: Stat(%d, %d, %d, %v) = %d, %d, want %d, %d", first, mr, ps, l, got, err, want, wantErr)
		}
		if err == api.OK {
			why.named(first, l)
		}
	case 11:
		a, first := m.somewhere(r, m.a, min(m.a+3, len(m.units)))
		_, mr := m.somewhere(r, m.a, m.a+20)
		l := m.list(r, a)
		got, err := s.Ustat(first, mr, l)
		if want, wantErr := m.ustat(first, mr, l); got != want || err != wantErr {
			t.Fatalf("P11.1: Ustat(%d, %d, %v) = %d, %d, want %d, %d", first, mr, l, got, err, want, wantErr)
		}
		if err == api.OK {
			why.named(first, l)
		}
	}
}

// TestAnyCalls does what a fixed draw says, and holds the sender against the model.
func TestAnyCalls(t *testing.T) {
	for seed := range 300 {
		r := rand.New(rand.NewSource(int64(seed)))
		s, m := made(starts[seed%len(starts)], 1+r.Intn(9), 1+r.Intn(9))
		why := reasons{}
		for range 400 {
			before, m2 := s.Clone(), m.clone()
			step(t, r, s, m, why)
			check(t, s, m)
			check(t, before, m2)
		}
	}
}

// TestCloneGoesItsOwnWay does unlike things to a sender and its clone.
func TestCloneGoesItsOwnWay(t *testing.T) {
	for seed := range 60 {
		r := rand.New(rand.NewSource(int64(seed)))
		s, m := made(starts[seed%len(starts)], 5, 3)
		why := reasons{}
		for range 60 {
			step(t, r, s, m, why)
		}
		c, n := s.Clone(), m.clone()
		other := reasons{}
		for x := range why {
			other[x] = true
		}
		for range 60 {
			step(t, r, s, m, why)
			check(t, c, n)
			step(t, r, c, n, other)
			check(t, s, m)
		}
	}
}

// TestAnswersAreNew is rule 5: what is handed in or answered is written over, to its last spare place.
func TestAnswersAreNew(t *testing.T) {
	s, m := out(t, modulus-4, 6)
	list := append(numbers(m, []int{1, 2, 3, 5}), 77, 77)
	if n, err := s.Ustat(at(m, 0), at(m, 50), list[:4]); n != 3 || err != api.OK {
		t.Fatalf("P11.3: Ustat = %d, %d", n, err)
	}
	m.ustat(at(m, 0), at(m, 50), list[:4])
	if want := append(numbers(m, []int{1, 2, 3, 5}), 77, 77); !slices.Equal(list, want) {
		t.Errorf("rule 5: the list that was handed in is %v", list)
	}
	c := s.Clone()
	for _, x := range []*send.Send{s, c} {
		again, left := x.Vars().Again, x.Left()
		for i := range again[:cap(again)] {
			again[:cap(again)][i] = 5
		}
		for i := range left[:cap(left)] {
			left[:cap(left)][i] = "spoilt"
		}
		for i := range list {
			list[i] = 9
		}
		check(t, s, m)
		check(t, c, m)
	}
}

// TestEachCallAnswers is P1: any values of the arguments' types.
func TestEachCallAnswers(t *testing.T) {
	r := rand.New(rand.NewSource(1))
	for range 300 {
		s := send.New(seq.Num(r.Uint32()), r.Int()-r.Int(), r.Int()-r.Int())
		for range 60 {
			drawn := func() seq.Num { return seq.Num(r.Uint32()) }
			l := make([]seq.Num, r.Intn(9))
			for i := range l {
				l[i] = drawn()
			}
			s.Open(drawn())
			s.Put(string(make([]byte, r.Intn(300))))
			s.Next()
			s.Poll()
			s.Stat(drawn(), drawn(), drawn(), l)
			s.Stat(s.Vars().S, drawn(), s.Vars().PS, nil)
			s.Stat(s.Vars().A, drawn(), s.Vars().PS, l)
			s.Ustat(drawn(), drawn(), l)
			s.Ustat(s.Vars().A, drawn(), l)
			v := s.Vars()
			if far(v.A, v.S) > far(v.A, v.MS) || far(v.A, v.MS) > half || v.Kept != far(v.A, v.S) {
				t.Fatalf("P11.2: %+v", v)
			}
			if len(s.Left()) != v.Kept+v.Queued || s.Idle() != (len(s.Left()) == 0) || s.Lacks() && s.Idle() {
				t.Fatalf("P1: %+v, %d left", v, len(s.Left()))
			}
		}
	}
}
