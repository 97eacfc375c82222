package recv_test

import (
	"math"
	"math/rand"
	"slices"
	"strconv"
	"testing"

	"polliwog/api"
	"polliwog/recv"
	"polliwog/seq"
)

// starts are such as a receiver begins with, some of them with more than 24 bits.
var starts = []seq.Num{0, 1, 7, half - 3, half, modulus - 9, modulus - 2, modulus - 1, modulus, modulus + 5, math.MaxUint32 - 3, math.MaxUint32}

// feed has units come, each with its place as its text.
func feed(t *testing.T, r *recv.Recv, m *model, places ...int) []string {
	t.Helper()
	var l []string
	for _, p := range places {
		l = append(l, data(t, r, m, m.number(p), strconv.Itoa(p))...)
	}
	return l
}

// texts is the places from one on, ahead of another one, as texts.
func texts(from, to int) []string {
	var l []string
	for p := from; p < to; p++ {
		l = append(l, strconv.Itoa(p))
	}
	return l
}

func numbers(m *model, places ...int) []seq.Num {
	var l []seq.Num
	for _, p := range places {
		l = append(l, m.number(p))
	}
	return l
}

func TestExample(t *testing.T) {
	r := recv.New(0, 8)
	if l := r.Data(1, "b"); len(l) != 0 {
		t.Errorf("P12.3: Data 1 = %q", l)
	}
	if v := r.Vars(); v.R != 0 || v.H != 2 || v.Gaps != 1 || v.Buffered != 1 {
		t.Errorf("P12.1: behind Data 1: %+v", v)
	}
	if l, next, most, ok := r.Clone().Gap(); !slices.Equal(l, []seq.Num{0, 1}) || next != 0 || most != 8 || !ok {
		t.Errorf("P12.4: Gap = %v, %d, %d, %v", l, next, most, ok)
	}
	if l := r.Data(0, "a"); !slices.Equal(l, []string{"a", "b"}) {
		t.Errorf("P12.3: Data 0 = %q", l)
	}
}

// TestNew has all edges of a window.
func TestNew(t *testing.T) {
	for _, start := range starts {
		for _, c := range [][2]int{{math.MinInt, 1}, {-1, 1}, {0, 1}, {1, 1}, {2, 2}, {63, 63}, {64, 64}, {65, 64}, {math.MaxInt, 64}} {
			r, m := made(start, c[0])
			check(t, r, m)
			want := recv.Vars{R: start % modulus, H: start % modulus, MR: seq.Of(int(start) + c[1])}
			if v := r.Vars(); v != want {
				t.Errorf("P12.1: New(%d, %d): %+v, want %+v", start, c[0], v, want)
			}
			if _, ok := gap(t, r, m); ok || stat(t, r, m) != nil || len(take(t, r, m, 9)) != 0 {
				t.Errorf("P12.1: New(%d, %d) has something", start, c[0])
			}
		}
	}
}

// TestTheWindow has each number about it come, as the first one and behind others.
func TestTheWindow(t *testing.T) {
	for _, start := range starts {
		for _, window := range []int{1, 2, 5, 64} {
			for _, came := range []int{0, 1, window / 2, window} {
				for _, p := range []int{-half, -2, -1, 0, 1, came - 1, came, came + 1, window - 1, window, window + 1, came + window, came + window + 1, half} {
					r, m := made(start, window)
					feed(t, r, m, places(came)...)
					l := feed(t, r, m, p)
					v := r.Vars()
					if fits := p >= came && p < window; !fits && (len(l) != 0 || v.H != m.number(came) || v.Buffered != 0 || v.Gaps != 0) {
						t.Errorf("P12.2: window %d, %d came, then %d: %q, %+v", window, came, p, l, v)
					} else if fits && v.H != m.number(p+1) {
						t.Errorf("P12.1: window %d, %d came, then %d: %+v", window, came, p, v)
					}
				}
			}
		}
	}
}

// places are those from 0 on, ahead of n.
func places(n int) []int {
	var l []int
	for p := range n {
		l = append(l, p)
	}
	return l
}

// TestEachOnce has units come twice: as they came first, once.
func TestEachOnce(t *testing.T) {
	for _, start := range starts {
		r, m := made(start, 6)
		var l []string
		for i, p := range []int{2, 2, 0, 0, 2, 1, 1, 0, 2, 5, 3, 5, 3, 4, 4} {
			l = append(l, data(t, r, m, m.number(p)+seq.Num(i)*modulus, strconv.Itoa(100*p+i))...)
		}
		want := []string{"2", "105", "200", "310", "413", "509"}
		if !slices.Equal(l, want) || !slices.Equal(take(t, r, m, 6), want) {
			t.Errorf("P12.3: start %d: %q came, want %q", start, l, want)
		}
	}
}

// TestAllOrders has seven units come in each order there is.
func TestAllOrders(t *testing.T) {
	const many = 7
	var each func(l []int, do func([]int))
	each = func(l []int, do func([]int)) {
		if len(l) == many {
			do(l)
			return
		}
		for p := range many {
			if !slices.Contains(l, p) {
				each(append(slices.Clone(l), p), do)
			}
		}
	}
	each(nil, func(order []int) {
		r, m := made(modulus-3, many)
		if got := feed(t, r, m, order...); !slices.Equal(got, texts(0, many)) {
			t.Fatalf("P12.3: of %v came %q", order, got)
		}
		for range many {
			gap(t, r, m)
		}
	})
}

// TestAtMostEightGaps has nine of them: the ninth isn't told, but what came
// behind it counts.
func TestAtMostEightGaps(t *testing.T) {
	for _, start := range starts {
		r, m := made(start, 40)
		for i := range 10 {
			feed(t, r, m, 3*i+2)
			if v := r.Vars(); v.Gaps != min(i+1, 8) || v.H != m.number(3*i+3) || v.Buffered != i+1 {
				t.Errorf("P12.1: behind gap %d: %+v", i+1, v)
			}
		}
		for i := range 8 {
			if l, ok := gap(t, r, m); !ok || !slices.Equal(l, numbers(m, 3*i, 3*i+2)) {
				t.Errorf("P12.4: gap %d = %v, %v", i+1, l, ok)
			}
		}
		if l, ok := gap(t, r, m); ok || l != nil {
			t.Errorf("P12.4: a ninth gap: %v", l)
		}
		feed(t, r, m, 31)
		if l, ok := gap(t, r, m); !ok || !slices.Equal(l, numbers(m, 30, 31)) {
			t.Errorf("P12.4: there is room again: %v, %v", l, ok)
		}
	}
}

// TestGapsThatAreFilled has gaps of which some numbers came since.
func TestGapsThatAreFilled(t *testing.T) {
	for _, start := range starts {
		for _, c := range []struct{ since, want []int }{
			{nil, []int{0, 6}},
			{[]int{0}, []int{1, 6}},
			{[]int{5}, []int{0, 5}},
			{[]int{2}, []int{0, 2}},
			{[]int{0, 2, 3}, []int{1, 2}},
			{[]int{0, 1, 3, 5}, []int{2, 3}},
			{[]int{4, 1, 0}, []int{2, 4}},
			{[]int{0, 1, 2, 3, 4}, []int{5, 6}},
			{[]int{5, 4, 3, 2, 1, 0}, []int{7, 9}},
			{[]int{5, 4, 3, 2, 1, 0, 7}, []int{8, 9}},
			{[]int{8, 7}, []int{0, 6}},
			{[]int{5, 4, 3, 2, 1, 0, 7, 8}, nil},
		} {
			r, m := made(start, 20)
			feed(t, r, m, 6, 9)
			feed(t, r, m, c.since...)
			l, ok := gap(t, r, m)
			if ok != (c.want != nil) || !slices.Equal(l, numbers(m, c.want...)) {
				t.Errorf("P12.4: start %d, since then %v: Gap = %v, %v, want %v", start, c.since, l, ok, c.want)
			}
		}
	}
}

// TestNoGapRenewsNothing has gaps go that came since: the credit stays.
func TestNoGapRenewsNothing(t *testing.T) {
	r, m := made(modulus-1, 8)
	feed(t, r, m, 1, 0, 3, 2)
	take(t, r, m, 2)
	before := r.Vars()
	if _, ok := gap(t, r, m); ok {
		t.Errorf("P12.4: a gap that came")
	}
	after := r.Vars()
	if before.Gaps != 2 || after.Gaps != 0 || after.MR != before.MR {
		t.Errorf("P12.1: no gap: %+v, ahead of it %+v", after, before)
	}
}

// expectCredit looks where MR is.
func expectCredit(t *testing.T, r *recv.Recv, m *model, what string, most int) {
	t.Helper()
	if got := r.Vars().MR; got != m.number(most) {
		t.Errorf("P12.2: start %d, %s: MR is %d on, want %d", m.start, what, far(m.start, got), most)
	}
}

// TestStatRenewsTheCredit has it stay at each other call.
func TestStatRenewsTheCredit(t *testing.T) {
	for _, start := range starts {
		r, m := made(start, 4)
		feed(t, r, m, 0, 2)
		stat(t, r, m)
		expectCredit(t, r, m, "one in the inbox", 4)
		take(t, r, m, 1)
		feed(t, r, m, 1)
		poll(t, r, m, m.number(3))
		expectCredit(t, r, m, "one was taken, three came", 4)
		if l := feed(t, r, m, 4); len(l) != 0 || r.Vars().H != m.number(3) {
			t.Errorf("P12.2: 4 came, which may not: %q, %+v", l, r.Vars())
		}
		stat(t, r, m)
		expectCredit(t, r, m, "two in the inbox", 5)
		take(t, r, m, 5)
		expectCredit(t, r, m, "all taken", 5)
		stat(t, r, m)
		expectCredit(t, r, m, "all taken, and told", 7)
	}
}

// TestGapRenewsTheCredit does so only if there is one that is told.
func TestGapRenewsTheCredit(t *testing.T) {
	for _, start := range starts {
		r, m := made(start, 8)
		feed(t, r, m, 0, 1, 2, 4)
		take(t, r, m, 2)
		expectCredit(t, r, m, "two were taken", 8)
		if _, ok := gap(t, r, m); !ok {
			t.Errorf("P12.4: there is no gap")
		}
		expectCredit(t, r, m, "one in the inbox, and a gap told", 10)
		take(t, r, m, 1)
		if _, ok := gap(t, r, m); ok {
			t.Errorf("P12.4: there is another gap")
		}
		expectCredit(t, r, m, "none in the inbox, and no gap", 10)
	}
}

// TestTheInboxIsFull has no credit till something is taken.
func TestTheInboxIsFull(t *testing.T) {
	for _, window := range []int{1, 2, 7, 64} {
		r, m := made(modulus-5, window)
		feed(t, r, m, places(window)...)
		for range 2 {
			stat(t, r, m)
			if v := r.Vars(); v.MR != v.R || v.Inbox != window {
				t.Errorf("P12.2: window %d is full: %+v", window, v)
			}
			if l := feed(t, r, m, window); len(l) != 0 {
				t.Errorf("P12.2: window %d is full, and %q came", window, l)
			}
		}
		for i := range window {
			if l := take(t, r, m, 1); !slices.Equal(l, texts(i, i+1)) {
				t.Errorf("P12.3: Take = %q", l)
			}
			stat(t, r, m)
			if l := feed(t, r, m, window+i); !slices.Equal(l, texts(window+i, window+i+1)) {
				t.Errorf("P12.3: one was taken, and %q came", l)
			}
		}
	}
}

// TestPoll has each number about H and MR: P12.1, P12.2.
func TestPoll(t *testing.T) {
	for _, start := range starts {
		for _, h := range []int{1, 3, 8} {
			for _, p := range []int{-half, -1, 0, h - 1, h, h + 1, 7, 8, 9, 1 + half, half, modulus - 1} {
				r, m := made(start, 8)
				feed(t, r, m, 0, h-1)
				before := r.Vars()
				want, wantH := api.OK, p
				if p < h || p > 8 {
					want, wantH = api.ErrPoll, h
				}
				if err := poll(t, r, m, m.number(p)+3*modulus); err != want || r.Vars().H != m.number(wantH) {
					t.Errorf("P12.1: start %d, H %d: Poll of %d = %d, want %d; %+v", start, h, p, err, want, r.Vars())
				}
				after := r.Vars()
				after.H = before.H
				if after != before {
					t.Errorf("P12.1: Poll of %d changed %+v to %+v", p, before, after)
				}
			}
		}
	}
}

// TestStat has all that didn't come named, by a poll's number, too: P12.4.
func TestStat(t *testing.T) {
	for _, start := range starts {
		for _, c := range []struct {
			came []int
			poll int
			want []int
		}{
			{nil, 0, nil},
			{nil, 1, []int{0, 1}},
			{nil, 9, []int{0, 9}},
			{[]int{0}, 1, nil},
			{[]int{0}, 2, []int{1, 2}},
			{[]int{1}, 2, []int{0, 1}},
			{[]int{1}, 4, []int{0, 1, 2, 4}},
			{[]int{1, 2, 5, 8}, 9, []int{0, 1, 3, 5, 6, 8}},
			{[]int{8, 6, 4, 2, 0}, 9, []int{1, 2, 3, 4, 5, 6, 7, 8}},
			{[]int{8, 6, 4, 2, 0, 1, 3}, 9, []int{5, 6, 7, 8}},
		} {
			r, m := made(start, 9)
			feed(t, r, m, c.came...)
			poll(t, r, m, m.number(c.poll))
			for range 2 {
				if l := stat(t, r, m); !slices.Equal(l, numbers(m, c.want...)) {
					t.Errorf("P12.4: start %d, of %v, ahead of %d: Stat = %v, want %v", start, c.came, c.poll, l, c.want)
				}
			}
		}
	}
}

// TestTheLongestStat has each other number of the greatest window missing.
func TestTheLongestStat(t *testing.T) {
	r, m := made(modulus-31, 64)
	for p := 63; p > 0; p -= 2 {
		feed(t, r, m, p)
	}
	if l := stat(t, r, m); len(l) != 64 {
		t.Errorf("P12.4: Stat of 32 that are missing = %v", l)
	}
}

// TestWhatAPollToldFillsNoGap has numbers known by a poll come, and be passed
// over: there is no gap of these to be told.
func TestWhatAPollToldFillsNoGap(t *testing.T) {
	r, m := made(5, 9)
	poll(t, r, m, m.number(4))
	feed(t, r, m, 2)
	if v := r.Vars(); v.Gaps != 0 || v.H != m.number(4) || v.Buffered != 1 {
		t.Errorf("P12.1: %+v", v)
	}
	feed(t, r, m, 6)
	if l, ok := gap(t, r, m); !ok || !slices.Equal(l, numbers(m, 4, 6)) {
		t.Errorf("P12.4: Gap = %v, %v", l, ok)
	}
}

func TestTake(t *testing.T) {
	r, m := made(3, 9)
	feed(t, r, m, 0, 1, 2, 3, 4, 6)
	for _, n := range []int{0, -1, math.MinInt} {
		if l := take(t, r, m, n); len(l) != 0 || r.Vars().Inbox != 5 {
			t.Errorf("P12.1: Take(%d) = %q", n, l)
		}
	}
	if l := take(t, r, m, 2); !slices.Equal(l, texts(0, 2)) {
		t.Errorf("P12.3: Take(2) = %q", l)
	}
	feed(t, r, m, 5)
	if l := take(t, r, m, math.MaxInt); !slices.Equal(l, texts(2, 7)) || r.Vars().Inbox != 0 {
		t.Errorf("P12.3: Take of all = %q", l)
	}
	if l := take(t, r, m, 1); len(l) != 0 {
		t.Errorf("P12.3: Take of none = %q", l)
	}
}

// TestARoundLater has a gap that came, and isn't told till its numbers are
// wanted again, 2^24 messages later.
func TestARoundLater(t *testing.T) {
	r := recv.New(0, 64)
	r.Data(1, "")
	for n := range modulus {
		r.Data(seq.Num(n), "")
		if n%32 == 31 {
			r.Take(64)
			r.Stat()
		}
	}
	r.Data(2, "")
	if v := r.Vars(); v.R != 0 || v.H != 3 || v.Gaps != 2 {
		t.Fatalf("P12.1: a round later: %+v", v)
	}
	if l, _, _, ok := r.Gap(); !ok || !slices.Equal(l, []seq.Num{0, 2}) || r.Vars().Gaps != 0 {
		t.Errorf("P12.4: a round later: Gap = %v, %v", l, ok)
	}
}

// step does a drawn thing with both.
func step(t *testing.T, random *rand.Rand, r *recv.Recv, m *model) {
	t.Helper()
	switch random.Intn(10) {
	case 0:
		poll(t, r, m, m.any(random))
	case 1:
		stat(t, r, m)
	case 2:
		gap(t, r, m)
	case 3:
		take(t, r, m, random.Intn(6)-1)
	default:
		data(t, r, m, m.any(random), strconv.Itoa(random.Intn(1000)))
	}
}

// TestAnyCalls does what a fixed draw says, and holds the receiver against the model.
func TestAnyCalls(t *testing.T) {
	for seed := range 400 {
		random := rand.New(rand.NewSource(int64(seed)))
		window := []int{1, 2, 3, 5, 9, 20, 30, 64}[seed%8]
		r, m := made(starts[seed%len(starts)], window)
		for range 300 {
			before, m2 := r.Clone(), m.clone()
			step(t, random, r, m)
			check(t, before, m2)
		}
	}
}

// TestCloneGoesItsOwnWay does unlike things to a receiver and its clone.
func TestCloneGoesItsOwnWay(t *testing.T) {
	for seed := range 60 {
		random := rand.New(rand.NewSource(int64(seed)))
		r, m := made(starts[seed%len(starts)], 12)
		for range 60 {
			step(t, random, r, m)
		}
		c, n := r.Clone(), m.clone()
		check(t, c, n)
		for range 60 {
			step(t, random, r, m)
			check(t, c, n)
			step(t, random, c, n)
			check(t, r, m)
		}
	}
}

// TestAnswersAreNew is rule 5: what is answered is written over, to its last spare place.
func TestAnswersAreNew(t *testing.T) {
	r, m := made(modulus-2, 20)
	spoil := func(l []string) {
		for i := range l[:cap(l)] {
			l[:cap(l)][i] = "spoilt"
		}
	}
	spoil(data(t, r, m, m.number(0), "0"))
	feed(t, r, m, 2, 1, 3, 5, 7, 9)
	spoil(data(t, r, m, m.number(4), "4"))
	list := stat(t, r, m)
	told, _ := gap(t, r, m)
	for _, l := range [][]seq.Num{list, told} {
		for i := range l[:cap(l)] {
			l[:cap(l)][i] = 77
		}
	}
	c, n := r.Clone(), m.clone()
	spoil(take(t, r, m, 3))
	spoil(take(t, c, n, 2))
	stat(t, r, m)
	stat(t, c, n)
	take(t, r, m, 9)
	take(t, c, n, 9)
}

// TestEachCallAnswers is P1: any values of the arguments' types.
func TestEachCallAnswers(t *testing.T) {
	random := rand.New(rand.NewSource(1))
	for range 500 {
		r := recv.New(seq.Num(random.Uint32()), random.Int()-random.Int())
		for range 60 {
			r.Data(seq.Num(random.Uint32()), string(make([]byte, random.Intn(300))))
			r.Data(r.Vars().R.Add(random.Intn(70)), "")
			r.Poll(seq.Num(random.Uint32()))
			r.Poll(r.Vars().H.Add(random.Intn(3)))
			r.Gap()
			r.Take(random.Int() - random.Int())
			l, next, most := r.Stat()
			v := r.Vars()
			if len(l)%2 != 0 || next != v.R || most != v.MR || far(v.R, v.H) > far(v.R, v.MR) || far(v.R, v.MR) > 64 || v.Buffered+v.Inbox > 64 {
				t.Fatalf("P1: Stat = %v, %d, %d; %+v", l, next, most, v)
			}
		}
	}
}
