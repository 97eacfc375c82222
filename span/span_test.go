package span_test

import (
	"cmp"
	"math"
	"math/rand"
	"slices"
	"testing"

	"polliwog/span"
)

const (
	greatest = 1 << 40
	least    = -greatest
	behind   = greatest + 1
	longest  = 65536
)

// The small world: all numbers from low on, ahead of high, in which sets are
// held against plain tables of what is in and what isn't.
const (
	low  = -3
	high = 6
	size = high - low
)

// table tells of each number of the small world whether it is in.
type table [size]bool

func (t table) with(x span.Span, in bool) table {
	for n := x.From; n < x.To; n++ {
		t[n-low] = in
	}
	return t
}

func (t table) list() []int {
	var l []int
	for i, in := range t {
		if in {
			l = append(l, i+low)
		}
	}
	return l
}

// set is the set of a table, written as the document tells it, number by number.
func (t table) set() span.Set {
	var s span.Set
	for i, in := range t {
		switch {
		case in && (i == 0 || !t[i-1]):
			s = append(s, span.Span{From: i + low, To: i + low + 1})
		case in:
			s[len(s)-1].To++
		}
	}
	return s
}

// spans are all spans of the small world, the empty and the turned ones among them.
func spans() []span.Span {
	var l []span.Span
	for from := low; from <= high; from++ {
		for to := low; to <= high; to++ {
			l = append(l, span.Span{From: from, To: to})
		}
	}
	return l
}

// tables are all tables of the small world.
func tables() []table {
	l := []table{{}}
	for i := range size {
		for _, t := range l {
			t[i] = true
			l = append(l, t)
		}
	}
	return l
}

// check holds a set against what it ought to be, and looks whether it is written as a set is.
func check(t *testing.T, got, want span.Set, what ...any) {
	t.Helper()
	if !slices.Equal(got, want) {
		t.Fatalf("P3.1: %v: %v, want %v", what, got, want)
	}
	for i, x := range got {
		if x.From >= x.To || i > 0 && got[i-1].To >= x.From || x.From < least || x.To > behind {
			t.Fatalf("P3.1: %v: %v isn't written as a set is", what, got)
		}
	}
}

func TestOfExamples(t *testing.T) {
	for _, c := range []struct{ l, want []span.Span }{
		{nil, nil},
		{[]span.Span{{5, 7}, {1, 3}, {6, 9}}, []span.Span{{1, 3}, {5, 9}}},
		{[]span.Span{{4, 4}}, nil},
		{[]span.Span{{4, 3}}, nil},
		{[]span.Span{{math.MaxInt, math.MinInt}}, nil},
		{[]span.Span{{4, 5}}, []span.Span{{4, 5}}},
		{[]span.Span{{4, 6}, {9, 9}, {5, 5}, {7, 2}}, []span.Span{{4, 6}}},
		{[]span.Span{{1, 4}, {1, 4}}, []span.Span{{1, 4}}},
		{[]span.Span{{1, 9}, {3, 5}}, []span.Span{{1, 9}}},
		{[]span.Span{{3, 5}, {1, 9}}, []span.Span{{1, 9}}},
		{[]span.Span{{1, 9}, {1, 5}, {7, 10}}, []span.Span{{1, 10}}},
		{[]span.Span{{1, 3}, {3, 5}}, []span.Span{{1, 5}}},
		{[]span.Span{{3, 5}, {1, 3}}, []span.Span{{1, 5}}},
		{[]span.Span{{1, 3}, {4, 5}}, []span.Span{{1, 3}, {4, 5}}},
		{[]span.Span{{4, 5}, {1, 3}}, []span.Span{{1, 3}, {4, 5}}},
		{[]span.Span{{4, 5}, {1, 3}, {3, 4}}, []span.Span{{1, 5}}},
		{[]span.Span{{-9, -4}, {2, 4}, {-2, 0}}, []span.Span{{-9, -4}, {-2, 0}, {2, 4}}},
	} {
		check(t, span.Of(c.l...), c.want, "Of", c.l)
	}
	check(t, span.Of(), nil, "Of nothing")
	if s := span.Of(); s.Len() != 0 || s.Has(0) || len(s.List()) != 0 {
		t.Errorf("P3.1: Of nothing has %v", s)
	}
}

// TestNearestNumbers asks for numbers at and beyond the least and the greatest ones.
func TestNearestNumbers(t *testing.T) {
	for _, c := range []struct {
		x    span.Span
		want []span.Span
	}{
		{span.Span{least, behind}, []span.Span{{least, behind}}},
		{span.Span{math.MinInt, math.MaxInt}, []span.Span{{least, behind}}},
		{span.Span{least - 1, behind + 1}, []span.Span{{least, behind}}},
		{span.Span{least + 1, behind - 1}, []span.Span{{least + 1, greatest}}},
		{span.Span{greatest, behind}, []span.Span{{greatest, behind}}},
		{span.Span{greatest, greatest}, nil},
		{span.Span{greatest - 1, greatest}, []span.Span{{greatest - 1, greatest}}},
		{span.Span{greatest - 1, math.MaxInt}, []span.Span{{greatest - 1, behind}}},
		{span.Span{least, least}, nil},
		{span.Span{least, least + 1}, []span.Span{{least, least + 1}}},
		{span.Span{math.MinInt, least + 1}, []span.Span{{least, least + 1}}},
		{span.Span{math.MinInt, least}, nil},
		{span.Span{math.MinInt, least - 5}, nil},
		{span.Span{least - 9, least - 5}, nil},
		{span.Span{0, math.MinInt}, nil},
		{span.Span{0, math.MaxInt}, []span.Span{{0, behind}}},
		// From counts as the nearest one it may be, and To lies behind that one.
		{span.Span{behind, behind}, []span.Span{{greatest, behind}}},
		{span.Span{behind, behind + 5}, []span.Span{{greatest, behind}}},
		{span.Span{math.MaxInt, math.MaxInt}, []span.Span{{greatest, behind}}},
		{span.Span{behind + 9, behind + 3}, []span.Span{{greatest, behind}}},
		{span.Span{math.MaxInt, greatest}, nil},
		{span.Span{math.MaxInt, 0}, nil},
	} {
		check(t, span.Of(c.x), c.want, "Of", c.x)
		check(t, span.Set(nil).Add(c.x), c.want, "none Add", c.x)
		check(t, span.Set(nil).Gaps(c.x), c.want, "none Gaps", c.x)
		all := span.Of(span.Span{From: math.MinInt, To: math.MaxInt})
		check(t, all.Gaps(c.x), nil, "all Gaps", c.x)
		check(t, all.Add(c.x), all, "all Add", c.x)
		rest := all.Drop(c.x)
		check(t, rest.Gaps(span.Span{From: least, To: behind}), c.want, "all Drop", c.x)
		check(t, rest.Both(c.want), nil, "all Drop, Both", c.x)
		check(t, all.Both(c.want), c.want, "all Both", c.x)
		check(t, rest.Add(c.x), all, "all Drop Add", c.x)
	}
}

func TestEndsOfTheGreatestSet(t *testing.T) {
	all := span.Of(span.Span{From: math.MinInt, To: math.MaxInt})
	for x, want := range map[int]bool{
		math.MinInt: false, least - 1: false, least: true, 0: true, greatest: true, behind: false, behind + 1: false, math.MaxInt: false,
	} {
		if all.Has(x) != want || span.Set(nil).Has(x) {
			t.Errorf("P3.1: Has(%d) = %v", x, all.Has(x))
		}
	}
	if all.Len() != behind-least {
		t.Errorf("P3.1: Len of all = %d", all.Len())
	}
	check(t, all.Drop(span.Span{From: 3, To: 5}), span.Set{{least, 3}, {5, behind}}, "all Drop")
	check(t, all.Drop(span.Span{From: least, To: 5}), span.Set{{5, behind}}, "all Drop")
	check(t, all.Drop(span.Span{From: 5, To: behind}), span.Set{{least, 5}}, "all Drop")
	check(t, all.Drop(span.Span{From: least, To: behind}), nil, "all Drop")
	if l := all.List(); len(l) != longest || l[0] != least || l[longest-1] != least+longest-1 {
		t.Errorf("P3.1: List of all has %d", len(l))
	}
	if l := span.Of(span.Span{From: greatest, To: math.MaxInt}).List(); !slices.Equal(l, []int{greatest}) {
		t.Errorf("P3.1: List of the greatest = %v", l)
	}
}

// TestOfAllThrees holds Of of any three spans, in any order, against tables.
func TestOfAllThrees(t *testing.T) {
	all := spans()
	random := rand.New(rand.NewSource(3))
	for _, a := range all {
		for _, b := range all {
			c := all[random.Intn(len(all))]
			check(t, span.Of(a, b), table{}.with(a, true).with(b, true).set(), "Of", a, b)
			want := table{}.with(a, true).with(b, true).with(c, true).set()
			for _, l := range [][]span.Span{{a, b, c}, {c, b, a}, {b, c, a}} {
				check(t, span.Of(l...), want, "Of", l)
			}
		}
	}
}

// TestAskedNumberByNumber holds Has, Len and List of any set of the small world against its table.
func TestAskedNumberByNumber(t *testing.T) {
	for _, in := range tables() {
		s := span.Of(in.set()...)
		check(t, s, in.set(), "Of a set")
		if want := in.list(); s.Len() != len(want) || !slices.Equal(s.List(), want) {
			t.Fatalf("P3.1: %v: Len %d, List %v", s, s.Len(), s.List())
		}
		for x := low - 2; x < high+2; x++ {
			if want := x >= low && x < high && in[x-low]; s.Has(x) != want {
				t.Fatalf("P3.1: %v: Has(%d) = %v", s, x, s.Has(x))
			}
		}
	}
}

// TestWithAndWithout holds Add, Drop and Gaps of any set of the small world, of any span, against tables.
func TestWithAndWithout(t *testing.T) {
	all := spans()
	for _, in := range tables() {
		s := in.set()
		for _, x := range all {
			without := in.with(x, false)
			check(t, s.Add(x), in.with(x, true).set(), s, "Add", x)
			check(t, s.Drop(x), without.set(), s, "Drop", x)
			gaps := table{}.with(x, true)
			for i := range gaps {
				gaps[i] = gaps[i] && !in[i]
			}
			check(t, s.Gaps(x), gaps.set(), s, "Gaps", x)
		}
	}
}

// TestBothAndSame holds Both and Same of any two sets of the small world against tables.
func TestBothAndSame(t *testing.T) {
	all := tables()
	sets := make([]span.Set, len(all))
	for i, in := range all {
		sets[i] = in.set()
	}
	for i, a := range all {
		for j, b := range all {
			var both table
			for n := range both {
				both[n] = a[n] && b[n]
			}
			if got := sets[i].Both(sets[j]); !slices.Equal(got, both.set()) {
				t.Fatalf("P3.1: %v Both %v = %v", sets[i], sets[j], got)
			}
			if got := span.Same(sets[i], sets[j]); got != (i == j) {
				t.Fatalf("P3.1: Same(%v, %v) = %v", sets[i], sets[j], got)
			}
		}
	}
}

// TestNone asks sets that are none, written either way.
func TestNone(t *testing.T) {
	some := span.Of(span.Span{From: 2, To: 4})
	for _, none := range []span.Set{nil, {}, span.Of(), some.Drop(span.Span{From: 0, To: 9}), some.Both(nil)} {
		if none.Len() != 0 || none.Has(0) || none.Has(2) || len(none.List()) != 0 {
			t.Errorf("P3.1: none has %v", none)
		}
		check(t, none.Add(span.Span{From: 2, To: 4}), some, "none Add")
		check(t, none.Add(span.Span{From: 4, To: 2}), nil, "none Add")
		check(t, none.Drop(span.Span{From: 2, To: 4}), nil, "none Drop")
		check(t, none.Gaps(span.Span{From: 2, To: 4}), some, "none Gaps")
		check(t, none.Gaps(span.Span{From: 4, To: 4}), nil, "none Gaps")
		check(t, none.Both(some), nil, "none Both")
		check(t, some.Both(none), nil, "Both none")
		if !span.Same(none, nil) || !span.Same(span.Set{}, none) || span.Same(none, some) || span.Same(some, none) {
			t.Errorf("P3.1: Same of none")
		}
	}
}

func TestListIsTheFirst65536(t *testing.T) {
	for _, c := range []struct {
		s    span.Set
		want int
		last int
	}{
		{span.Of(span.Span{From: 5, To: 5 + longest - 1}), longest - 1, 5 + longest - 2},
		{span.Of(span.Span{From: 5, To: 5 + longest}), longest, 5 + longest - 1},
		{span.Of(span.Span{From: 5, To: 6 + longest}), longest, 5 + longest - 1},
		{span.Of(span.Span{From: -70000, To: 70000}), longest, -70000 + longest - 1},
		{span.Of(span.Span{From: 0, To: longest - 1}, span.Span{From: 1 << 20, To: 1<<20 + 9}), longest, 1 << 20},
		{span.Of(span.Span{From: 0, To: longest}, span.Span{From: 1 << 20, To: 1<<20 + 9}), longest, longest - 1},
		{span.Of(span.Span{From: 0, To: 40000}, span.Span{From: 50000, To: 90000}, span.Span{From: 95000, To: 95001}), longest, 10000 + longest - 1},
	} {
		l := c.s.List()
		if len(l) != c.want || l[len(l)-1] != c.last {
			t.Fatalf("P3.1: List of %v has %d", c.s, len(l))
		}
		for i, x := range l {
			if !c.s.Has(x) || i > 0 && l[i-1] >= x {
				t.Fatalf("P3.1: List of %v: %d at %d", c.s, x, i)
			}
		}
	}
}

// TestManySpans is of more spans than a list has numbers, handed in out of order.
func TestManySpans(t *testing.T) {
	const many = 70000
	l := make([]span.Span, many)
	for i := range l {
		l[i] = span.Span{From: 3 * i, To: 3*i + 2}
	}
	rand.New(rand.NewSource(4)).Shuffle(many, func(i, j int) { l[i], l[j] = l[j], l[i] })
	s := span.Of(l...)
	if len(s) != many || s.Len() != 2*many || !s.Has(3*many-2) || s.Has(3*many-1) || s.Has(3*many) || s.Has(-1) {
		t.Fatalf("P3.1: %d spans, %d numbers", len(s), s.Len())
	}
	if got := s.List(); len(got) != longest || got[longest-1] != 3*(longest/2-1)+1 {
		t.Errorf("P3.1: List has %d", len(got))
	}
	everything := span.Span{From: 0, To: 3 * many}
	gaps := s.Gaps(everything)
	if len(gaps) != many || gaps.Len() != many || len(s.Both(gaps)) != 0 || !span.Same(s.Drop(everything), nil) {
		t.Errorf("P3.1: %d gaps", len(gaps))
	}
	check(t, s.Add(everything), span.Set{everything}, "Add over all")
}

// moved are sets that look alike at other places of the line, near to its ends too.
func moved(s span.Set, by int) span.Set {
	l := slices.Clone(s)
	for i := range l {
		l[i].From += by
		l[i].To += by
	}
	return l
}

func TestFarOut(t *testing.T) {
	random := rand.New(rand.NewSource(5))
	all, each := spans(), tables()
	for _, by := range []int{least - low, greatest - high, behind - high, -1 << 33, 1<<31 - 2, 1 << 39} {
		for range 2000 {
			in, x := each[random.Intn(len(each))], all[random.Intn(len(all))]
			far := moved(span.Set{x}, by)[0]
			// A From above the greatest one would count as that.
			if far.From > greatest {
				continue
			}
			s := moved(in.set(), by)
			check(t, s.Add(far), moved(in.set().Add(x), by), s, "Add", far)
			check(t, s.Drop(far), moved(in.set().Drop(x), by), s, "Drop", far)
			check(t, s.Gaps(far), moved(in.set().Gaps(x), by), s, "Gaps", far)
			if s.Len() != in.set().Len() || len(s.List()) != s.Len() {
				t.Fatalf("P3.1: Len and List of %v", s)
			}
		}
	}
}

// TestDropAndGapsAreOfOneAnother is P3.2.
func TestDropAndGapsAreOfOneAnother(t *testing.T) {
	all := spans()
	for _, x := range all {
		for _, y := range all {
			if dropped, gaps := span.Of(x).Drop(y), span.Of(y).Gaps(x); !span.Same(dropped, gaps) {
				t.Errorf("P3.2: %v Drop %v = %v, %v Gaps %v = %v", x, y, dropped, y, x, gaps)
			}
		}
	}
	for _, in := range tables() {
		for _, x := range all {
			s := in.set()
			// The rest has nothing of the span: all of it is a gap.
			rest := s.Drop(x)
			if !span.Same(rest.Gaps(x), span.Of(x)) || !span.Same(rest.Both(span.Of(x)), nil) {
				t.Fatalf("P3.2: %v Drop %v leaves %v", s, x, rest)
			}
			whole := append(s.Gaps(x), s.Both(span.Of(x))...)
			if !span.Same(span.Of(whole...), span.Of(x)) || len(s.Gaps(x).Both(s)) != 0 {
				t.Fatalf("P3.2: %v Gaps %v = %v", s, x, s.Gaps(x))
			}
			back := rest
			for _, y := range s.Both(span.Of(x)) {
				back = back.Add(y)
			}
			if !span.Same(back, s) {
				t.Fatalf("P3.2: %v Drop %v, and back = %v", s, x, back)
			}
		}
	}
}

// touch tells whether two spans that aren't empty have a number in common, or lie side by side.
func touch(x, y span.Span) bool { return x.From <= y.To && y.From <= x.To }

// TestAnyOrder is P3.2: Add and Drop, in any order, of spans that don't touch.
func TestAnyOrder(t *testing.T) {
	all := spans()
	random := rand.New(rand.NewSource(6))
	each := tables()
	for _, x := range all {
		for _, y := range all {
			if touch(x, y) && x.From < x.To && y.From < y.To {
				continue
			}
			s := each[random.Intn(len(each))].set()
			if !span.Same(s.Add(x).Drop(y), s.Drop(y).Add(x)) {
				t.Fatalf("P3.2: %v Add %v Drop %v", s, x, y)
			}
			if !span.Same(s.Add(x).Add(y), s.Add(y).Add(x)) || !span.Same(s.Drop(x).Drop(y), s.Drop(y).Drop(x)) {
				t.Fatalf("P3.2: %v, %v and %v", s, x, y)
			}
		}
	}
}

// TestLongerOrders puts many spans that don't touch in and out in several orders.
func TestLongerOrders(t *testing.T) {
	random := rand.New(rand.NewSource(7))
	for range 300 {
		var l []span.Span
		for from := -50; from < 50; {
			x := span.Span{From: from + 1 + random.Intn(3), To: from + 5 + random.Intn(4)}
			l, from = append(l, x), x.To+random.Intn(2)
		}
		s := span.Of(span.Span{From: random.Intn(60) - 50, To: random.Intn(60) - 10})
		in := map[int]bool{}
		for i := range l {
			in[l[i].From] = random.Intn(2) == 0
		}
		rising := done(s, l, in)
		random.Shuffle(len(l), func(i, j int) { l[i], l[j] = l[j], l[i] })
		if mixed := done(s, l, in); !span.Same(rising, mixed) {
			t.Fatalf("P3.2: %v: %v, else %v", l, rising, mixed)
		}
	}
}

// done is s with those spans that are in, and without the others, one by one.
func done(s span.Set, l []span.Span, in map[int]bool) span.Set {
	for _, x := range l {
		if in[x.From] {
			s = s.Add(x)
		} else {
			s = s.Drop(x)
		}
	}
	return s
}

// TestNothingHandedInIsChanged is rule 5, for what is handed in, and its spare room.
func TestNothingHandedInIsChanged(t *testing.T) {
	mark := span.Span{From: 77, To: 78}
	room := []span.Span{{5, 7}, {9, 2}, {1, 3}, {6, 9}, {math.MinInt, 0}, mark, mark, mark}
	kept := slices.Clone(room)
	l := room[:5]
	first := span.Of(l...)
	if !slices.Equal(room, kept) {
		t.Fatalf("P3.1: Of changes its list: %v", room)
	}
	want := slices.Clone(first)
	for i := range room {
		room[i] = mark
	}
	check(t, first, want, "Of keeps its list")

	spare := span.Set{{1, 3}, {5, 7}, {9, 12}, mark, mark, mark}
	other := span.Set{{2, 6}, {10, 20}, mark, mark}
	was, otherWas := slices.Clone(spare), slices.Clone(other)
	s, o := spare[:3], other[:2]
	for _, x := range []span.Span{{0, 30}, {3, 5}, {2, 10}, {20, 22}, {7, 7}, {8, 4}, {12, 15}, {4, 4}} {
		s.Add(x)
		s.Drop(x)
		s.Gaps(x)
		s.Both(o)
		o.Both(s)
		span.Same(s, o)
		s.List()
		s.Len()
		s.Has(x.From)
		if !slices.Equal(spare, was) || !slices.Equal(other, otherWas) {
			t.Fatalf("P3.1: a call of %v changes a set: %v, %v", x, spare, other)
		}
	}
}

// TestAnswersAreNew is rule 5, for answers: they are written over, to their last spare place, and all else stays.
func TestAnswersAreNew(t *testing.T) {
	s, o := span.Of(span.Span{From: 1, To: 3}, span.Span{From: 5, To: 9}), span.Of(span.Span{From: -2, To: 20})
	was, otherWas := slices.Clone(s), slices.Clone(o)
	for name, call := range map[string]func() span.Set{
		"Of":             func() span.Set { return span.Of(s...) },
		"Of one":         func() span.Set { return span.Of(o...) },
		"Add":            func() span.Set { return s.Add(span.Span{From: 30, To: 40}) },
		"Add empty":      func() span.Set { return s.Add(span.Span{From: 4, To: 4}) },
		"Add what is in": func() span.Set { return s.Add(span.Span{From: 5, To: 6}) },
		"Drop":           func() span.Set { return s.Drop(span.Span{From: 6, To: 7}) },
		"Drop nothing":   func() span.Set { return s.Drop(span.Span{From: 3, To: 5}) },
		"Drop empty":     func() span.Set { return s.Drop(span.Span{From: 9, To: 1}) },
		"Gaps":           func() span.Set { return s.Gaps(span.Span{From: -3, To: 11}) },
		"Both":           func() span.Set { return s.Both(o) },
		"Both turned":    func() span.Set { return o.Both(s) },
		"Both alike":     func() span.Set { return s.Both(s) },
	} {
		one, two := call(), call()
		want := slices.Clone(two)
		one = one[:cap(one)]
		for i := range one {
			one[i] = span.Span{From: -99, To: 99}
		}
		if !slices.Equal(two, want) || !slices.Equal(call(), want) || !slices.Equal(s, was) || !slices.Equal(o, otherWas) {
			t.Errorf("P3.1: what %s answers isn't its own", name)
		}
	}
	one, two := s.List(), s.List()
	want := slices.Clone(two)
	one = one[:cap(one)]
	for i := range one {
		one[i] = -99
	}
	if !slices.Equal(two, want) || !slices.Equal(s.List(), want) || !slices.Equal(s, was) {
		t.Errorf("P3.1: what List answers isn't its own")
	}
}

// TestEachCallAnswers is P1 of the document: no call panics, and each ends, at all values.
func TestEachCallAnswers(t *testing.T) {
	edges := []int{
		math.MinInt, math.MinInt + 1, least - 1, least, least + 1, -1, 0, 1, 65536, 1 << 24,
		greatest - 1, greatest, behind, behind + 1, math.MaxInt - 1, math.MaxInt,
	}
	var all []span.Span
	for _, from := range edges {
		for _, to := range edges {
			all = append(all, span.Span{From: from, To: to})
		}
	}
	for _, x := range all {
		for _, y := range all {
			s := span.Of(x)
			if n := s.Add(y).Len() - s.Len(); n != s.Gaps(y).Len() || n != span.Of(y).Drop(x).Len() {
				t.Fatalf("P1: %v and %v: %d numbers more", x, y, n)
			}
			if !span.Same(s.Both(span.Of(y)), span.Of(y).Both(s)) || s.Both(span.Of(y)).Len() != span.Of(y).Len()-s.Gaps(y).Len() {
				t.Fatalf("P1: %v and %v", x, y)
			}
		}
		s := span.Of(x)
		if n := len(s.List()); n != min(s.Len(), longest) || s.Len() < 0 {
			t.Fatalf("P1: List of %v has %d", x, n)
		}
		for _, n := range edges {
			if s.Has(n) != (s.Gaps(span.Span{From: n, To: n + 1}).Len() == 0 && n >= least && n <= greatest) {
				t.Fatalf("P1: %v Has(%d) = %v", x, n, s.Has(n))
			}
		}
	}
	s := span.Of(all...)
	slices.SortFunc(all, func(a, b span.Span) int { return cmp.Compare(b.To, a.To) })
	if !span.Same(s, span.Of(all...)) {
		t.Errorf("P1: Of all, in another order")
	}
}
