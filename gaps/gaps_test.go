package gaps_test

import (
	"math"
	"math/rand"
	"slices"
	"testing"

	"polliwog/gaps"
	"polliwog/pdu"
	"polliwog/seq"
	"polliwog/span"
)

const (
	modulus = 1 << 24
	half    = 1 << 23
	longest = 65536
)

// bases are numbers to count from, some of them with more than 24 bits.
var bases = []seq.Num{0, 1, 5, half - 1, half, half + 1, modulus - 6, modulus - 1, modulus, modulus + 3, math.MaxUint32 - 4, math.MaxUint32}

// at is the number so far from base, by a remainder.
func at(base seq.Num, n int) seq.Num {
	return seq.Num(((int(base)+n)%modulus + modulus) % modulus)
}

// far is how far x is from base, by a remainder.
func far(base, x seq.Num) int {
	return ((int(x)-int(base))%modulus + modulus) % modulus
}

// numbers are those so far from base, one by one.
func numbers(base seq.Num, l ...int) []seq.Num {
	var out []seq.Num
	for _, n := range l {
		out = append(out, at(base, n))
	}
	return out
}

// pairsOf is the List of a small set, told by what is in it, one number after
// the other: where one comes in or leaves, there is a number.
func pairsOf(base seq.Num, in []bool) []seq.Num {
	var l []seq.Num
	was := false
	for n, is := range append(slices.Clone(in), false) {
		if is != was {
			l = append(l, at(base, n))
		}
		was = is
	}
	return l
}

// setOf is that set.
func setOf(in []bool) span.Set {
	var l []span.Span
	for n, is := range in {
		if is {
			l = append(l, span.Span{From: n, To: n + 1})
		}
	}
	return span.Of(l...)
}

// sets are all that the numbers 0 to n - 1 make.
func sets(n int) [][]bool {
	var all [][]bool
	for bits := range 1 << n {
		in := make([]bool, n)
		for i := range n {
			in[i] = bits>>i&1 == 1
		}
		all = append(all, in)
	}
	return all
}

func TestExample(t *testing.T) {
	const base = 16777215
	s := span.Of(span.Span{From: 0, To: 2}, span.Span{From: 5, To: 6})
	want := []seq.Num{16777215, 1, 4, 5}
	if l := gaps.List(base, s); !slices.Equal(l, want) {
		t.Errorf("P9.1: List = %v, want %v", l, want)
	}
	if back, ok := gaps.Set(base, 5, want); !ok || !span.Same(back, s) {
		t.Errorf("P9.2: Set = %v, %v, want %v", back, ok, s)
	}
	named := gaps.Named(pdu.PDU{Kind: pdu.STAT, List: want})
	if !slices.Equal(named, []seq.Num{16777215, 0, 4}) || gaps.Count(want) != 3 {
		t.Errorf("P9.1: Named = %v, Count = %d", named, gaps.Count(want))
	}
}

// TestSmallSets has every set of the numbers 0 to 6, from each base on, there and back.
func TestSmallSets(t *testing.T) {
	for _, base := range bases {
		for _, in := range sets(7) {
			s, want := setOf(in), pairsOf(base, in)
			if l := gaps.List(base, s); !slices.Equal(l, want) {
				t.Fatalf("P9.1: List(%d, %v) = %v, want %v", base, s, l, want)
			}
			end := 0
			if len(s) > 0 {
				end = s[len(s)-1].To
			}
			for _, top := range []int{end, end + 1, 100, half} {
				back, ok := gaps.Set(base, at(base, top), want)
				if !ok || !span.Same(back, s) {
					t.Fatalf("P9.2: Set(%d, +%d, %v) = %v, %v, want %v", base, top, want, back, ok, s)
				}
			}
			for _, top := range []int{end - 1, half + 1, modulus - 1} {
				if back, ok := gaps.Set(base, at(base, top), want); ok || back != nil {
					t.Fatalf("P9.1: Set(%d, %+d, %v) = %v, %v, want none", base, top, want, back, ok)
				}
			}
		}
	}
}

// TestNumbersThatDontCount has spans of numbers below 0 and beyond 2^23.
func TestNumbersThatDontCount(t *testing.T) {
	for _, c := range []struct {
		spans []span.Span
		want  []int
	}{
		{nil, nil},
		{[]span.Span{{From: -5, To: 0}}, nil},
		{[]span.Span{{From: -1, To: 1}}, []int{0, 1}},
		{[]span.Span{{From: -1 << 40, To: -1}, {From: 0, To: 2}}, []int{0, 2}},
		{[]span.Span{{From: -3, To: -1}, {From: 4, To: 5}, {From: half + 1, To: half + 9}}, []int{4, 5}},
		{[]span.Span{{From: half - 1, To: half}}, []int{half - 1, half}},
		{[]span.Span{{From: half - 2, To: half + 1}}, []int{half - 2, half + 1}},
		{[]span.Span{{From: half, To: half + 1}}, []int{half, half + 1}},
		{[]span.Span{{From: half, To: half + 2}}, []int{half, half + 1}},
		{[]span.Span{{From: half - 5, To: half - 3}, {From: half, To: 1 << 40}}, []int{half - 5, half - 3, half, half + 1}},
		{[]span.Span{{From: half + 1, To: half + 2}}, nil},
		{[]span.Span{{From: modulus, To: modulus + 4}}, nil},
		{[]span.Span{{From: math.MinInt, To: math.MaxInt}}, []int{0, half + 1}},
	} {
		for _, base := range bases {
			want := numbers(base, c.want...)
			if l := gaps.List(base, span.Of(c.spans...)); !slices.Equal(l, want) {
				t.Errorf("P9.1: List(%d, %v) = %v, want %v", base, c.spans, l, want)
			}
		}
	}
}

// rising is n numbers that rise, at most so far.
func rising(r *rand.Rand, n, most int) []int {
	l := make([]int, n)
	for i := range l {
		l[i] = r.Intn(most + 1)
	}
	slices.Sort(l)
	return slices.Compact(l)
}

// TestThereAndBack is P9.2 of sets and lists of any length.
func TestThereAndBack(t *testing.T) {
	r := rand.New(rand.NewSource(9))
	for range 3000 {
		base := seq.Num(r.Uint32())
		most := 1 + r.Intn(1<<(1+r.Intn(23)))
		rises := rising(r, r.Intn(40), most)
		rises = rises[:len(rises)&^1]
		var spans []span.Span
		for i := 0; i < len(rises); i += 2 {
			spans = append(spans, span.Span{From: rises[i], To: rises[i+1]})
		}
		s, l := span.Of(spans...), numbers(base, rises...)
		if got := gaps.List(base, s); !slices.Equal(got, l) {
			t.Fatalf("P9.2: List(%d, %v) = %v, want %v", base, s, got, l)
		}
		back, ok := gaps.Set(base, at(base, most), l)
		if !ok || !span.Same(back, s) {
			t.Fatalf("P9.2: Set(%d, +%d, %v) = %v, %v, want %v", base, most, l, back, ok, s)
		}
		if got := gaps.List(base, back); !slices.Equal(got, l) {
			t.Fatalf("P9.2: List of Set = %v, want %v", got, l)
		}
	}
}

// maySet tells whether a list is one of a set, as the document says.
func maySet(base, top seq.Num, l []seq.Num) bool {
	if len(l)%2 == 1 || far(base, top) > half {
		return false
	}
	for i, x := range l {
		if far(base, x) > far(base, top) || i > 0 && far(base, x) <= far(base, l[i-1]) {
			return false
		}
	}
	return true
}

// lists are all of at most n numbers of these.
func lists(n int, of []int) [][]int {
	all := [][]int{nil}
	for i := 0; i < len(all); i++ {
		if len(all[i]) == n {
			break
		}
		for _, x := range of {
			all = append(all, append(slices.Clone(all[i]), x))
		}
	}
	return all
}

// TestListsThatAreNone has all lists of up to four numbers, near and far.
func TestListsThatAreNone(t *testing.T) {
	some := []int{0, 1, 2, 4, half - 1, half, half + 1, modulus - 1}
	for _, base := range []seq.Num{0, 1, modulus - 2, half, math.MaxUint32} {
		for _, far := range lists(4, some) {
			l := numbers(base, far...)
			for _, n := range some {
				top := at(base, n)
				s, ok := gaps.Set(base, top, l)
				if ok != maySet(base, top, l) || !ok && s != nil {
					t.Fatalf("P9.1: Set(%d, %+d, %v) = %v, %v, want %v", base, n, far, s, ok, !ok)
				}
				if ok && !slices.Equal(gaps.List(base, s), l) {
					t.Fatalf("P9.2: Set(%d, %+d, %v) = %v", base, n, far, s)
				}
			}
		}
	}
}

// TestOneWrongNumber has long lists of which only one number is wrong.
func TestOneWrongNumber(t *testing.T) {
	const base, many = modulus - 30, 20
	for i := range many {
		for _, wrong := range []int{-1, 2*i - 2, 2*many + 1, half, modulus - 1} {
			var l []int
			for n := range many {
				l = append(l, 2*n)
			}
			l[i] = wrong
			if s, ok := gaps.Set(base, at(base, 2*many), numbers(base, l...)); ok || s != nil {
				t.Errorf("P9.1: number %d is %d: Set = %v, %v, want none", i, wrong, s, ok)
			}
		}
	}
}

// TestLowestBits has all numbers with more than 24 bits.
func TestLowestBits(t *testing.T) {
	r := rand.New(rand.NewSource(24))
	for range 2000 {
		more := func(x seq.Num) seq.Num { return x + seq.Num(r.Intn(256))*modulus }
		base, top := at(0, r.Intn(modulus)), at(0, r.Intn(modulus))
		if r.Intn(2) == 0 {
			top = at(base, 40)
		}
		var l, high []seq.Num
		for _, n := range rising(r, r.Intn(6), 45) {
			l = append(l, at(base, n))
			high = append(high, more(at(base, n)))
		}
		s, ok := gaps.Set(base, top, l)
		got, gotOK := gaps.Set(more(base), more(top), high)
		if ok != gotOK || !span.Same(s, got) {
			t.Fatalf("P9.1: Set(%d, %d, %v) = %v, %v, of more bits %v, %v", base, top, l, s, ok, got, gotOK)
		}
		if got := gaps.List(more(base), s); !slices.Equal(got, gaps.List(base, s)) {
			t.Fatalf("P9.1: List(%d, %v), of more bits %v", base, s, got)
		}
		p, q := pdu.PDU{Kind: pdu.STAT, List: l}, pdu.PDU{Kind: pdu.STAT, List: high}
		if !slices.Equal(gaps.Named(p), gaps.Named(q)) || gaps.Count(l) != gaps.Count(high) {
			t.Fatalf("P9.1: of %v Named %v, Count %d, of more bits %v, %d", l, gaps.Named(p), gaps.Count(l), gaps.Named(q), gaps.Count(high))
		}
	}
}

// walk is the numbers that a list names, and how many its pairs have: it goes
// on from each pair's first number till it comes to the second one.
func walk(l []seq.Num) ([]seq.Num, int) {
	var named []seq.Num
	count := 0
	for ; len(l) >= 2; l = l[2:] {
		x, steps := l[0]%modulus, 0
		var pair []seq.Num
		for ; x != l[1]%modulus && steps <= half; x = (x + 1) % modulus {
			pair = append(pair, x)
			steps++
		}
		if steps > half {
			continue
		}
		count += steps
		for _, x := range pair {
			if !slices.Contains(named, x) {
				named = append(named, x)
			}
		}
	}
	return named, count
}

// TestNamed holds small lists, whose pairs lie over one another, against a walk.
func TestNamed(t *testing.T) {
	for _, base := range []seq.Num{0, modulus - 3, half - 2, math.MaxUint32 - 1} {
		for _, n := range lists(5, []int{0, 1, 3, 4, 6}) {
			if turned(n) {
				continue // such a pair goes nearly all the way round: TestFarPairs
			}
			l := numbers(base, n...)
			want, count := walk(l)
			for _, kind := range []int{pdu.STAT, pdu.USTAT} {
				if got := gaps.Named(pdu.PDU{Kind: kind, List: l}); !slices.Equal(got, want) {
					t.Fatalf("P9.1: Named of kind %d, %v = %v, want %v", kind, l, got, want)
				}
			}
			if got := gaps.Count(l); got != count {
				t.Fatalf("P9.1: Count(%v) = %d, want %d", l, got, count)
			}
		}
	}
}

// turned tells whether a pair's second number is ahead of its first one.
func turned(l []int) bool {
	for ; len(l) >= 2; l = l[2:] {
		if l[1] < l[0] {
			return true
		}
	}
	return false
}

// TestFarPairs has pairs that are as far as may be, and further.
func TestFarPairs(t *testing.T) {
	for _, base := range bases {
		for _, c := range []struct {
			l     []int
			count int
			named [][2]int // from each on, ahead of the other
		}{
			{nil, 0, nil},
			{[]int{3}, 0, nil},
			{[]int{3, 3}, 0, nil},
			{[]int{3, 2}, 0, nil},
			{[]int{0, modulus - 1}, 0, nil},
			{[]int{0, half + 1}, 0, nil},
			{[]int{0, half}, half, [][2]int{{0, longest}}},
			{[]int{7, half + 7}, half, [][2]int{{7, longest + 7}}},
			{[]int{7, half + 8}, 0, nil},
			{[]int{0, half - 1}, half - 1, [][2]int{{0, longest}}},
			{[]int{half, 0}, half, [][2]int{{half, half + longest}}},
			{[]int{half - 1, 0}, 0, nil},
			{[]int{3, 2, 5, 7}, 2, [][2]int{{5, 7}}},
			{[]int{5, 7, 3, 3, 9, 8, 1, 2}, 3, [][2]int{{5, 7}, {1, 2}}},
			{[]int{0, longest - 1}, longest - 1, [][2]int{{0, longest - 1}}},
			{[]int{0, longest}, longest, [][2]int{{0, longest}}},
			{[]int{0, longest + 1}, longest + 1, [][2]int{{0, longest}}},
			{[]int{0, longest, longest, longest + 9}, longest + 9, [][2]int{{0, longest}}},
			{[]int{0, longest - 2, 100000, 100009}, longest + 7, [][2]int{{0, longest - 2}, {100000, 100002}}},
			{[]int{5, longest, 0, 9}, longest + 4, [][2]int{{5, longest}, {0, 5}}},
			{[]int{5, longest + 3, 0, 9}, longest + 7, [][2]int{{5, longest + 3}, {0, 2}}},
			{[]int{5, longest, 9, 90, 0, 9, 200000, 200004}, longest + 89, [][2]int{{5, longest}, {0, 5}}},
			{[]int{0, half, 0, half, half, 0, 1}, 3 * half, [][2]int{{0, longest}}},
		} {
			l := numbers(base, c.l...)
			var want []seq.Num
			for _, p := range c.named {
				for n := p[0]; n < p[1]; n++ {
					want = append(want, at(base, n))
				}
			}
			if got := gaps.Named(pdu.PDU{Kind: pdu.STAT, List: l}); !slices.Equal(got, want) {
				t.Errorf("P9.1: Named of %v from %d on: %d numbers, want %d", c.l, base, len(got), len(want))
			}
			if got := gaps.Count(l); got != c.count {
				t.Errorf("P9.1: Count of %v from %d on = %d, want %d", c.l, base, got, c.count)
			}
		}
	}
}

// TestOtherKindsNameNone has a list in units of kinds that have none.
func TestOtherKindsNameNone(t *testing.T) {
	l := []seq.Num{3, 6}
	for kind := -3; kind <= 40; kind++ {
		got := gaps.Named(pdu.PDU{Kind: kind, List: l})
		if kind == pdu.STAT || kind == pdu.USTAT {
			if !slices.Equal(got, []seq.Num{3, 4, 5}) {
				t.Errorf("P9.1: Named of kind %d = %v", kind, got)
			}
		} else if len(got) != 0 {
			t.Errorf("P9.1: Named of kind %d = %v, want none", kind, got)
		}
	}
	for _, kind := range []int{math.MinInt, math.MaxInt, 1<<32 + pdu.STAT, 256 + pdu.STAT, 1<<32 + pdu.USTAT} {
		if got := gaps.Named(pdu.PDU{Kind: kind, List: l}); len(got) != 0 {
			t.Errorf("P9.1: Named of kind %d = %v, want none", kind, got)
		}
	}
}

// TestOnlyTheListIsAsked has units that may not be for other reasons, and a USTAT with more than one pair.
func TestOnlyTheListIsAsked(t *testing.T) {
	l := []seq.Num{1, 3, 2, 4, 9}
	for _, p := range []pdu.PDU{
		{Kind: pdu.STAT, List: l},
		{Kind: pdu.USTAT, List: l},
		{Kind: pdu.STAT, List: l, SQ: 999, N: math.MaxUint32, PS: 5, MR: 7, Self: true, Data: "abc"},
		{Kind: pdu.USTAT, List: l, N: 3, MR: 1},
	} {
		if got := gaps.Named(p); !slices.Equal(got, []seq.Num{1, 2, 3}) {
			t.Errorf("P9.1: Named(%v) = %v", p, got)
		}
	}
}

// TestNamesWhatIsMissing has the numbers of a set named by its List.
func TestNamesWhatIsMissing(t *testing.T) {
	for _, base := range bases {
		for _, in := range sets(6) {
			var want []seq.Num
			for n, is := range in {
				if is {
					want = append(want, at(base, n))
				}
			}
			l := gaps.List(base, setOf(in))
			if got := gaps.Named(pdu.PDU{Kind: pdu.STAT, List: l}); !slices.Equal(got, want) || gaps.Count(l) != len(want) {
				t.Fatalf("P9.2: Named of List of %v from %d on = %v, Count %d, want %v", in, base, got, gaps.Count(l), want)
			}
		}
	}
}

// TestAnswersAreNew is rule 5: what is handed in or answered is written over, to its last spare place.
func TestAnswersAreNew(t *testing.T) {
	over := func(l []seq.Num) {
		for i := range l[:cap(l)] {
			l[:cap(l)][i] = 77
		}
	}
	back := []seq.Num{4, 6, 8, 9, 100, 100}
	l := back[:4]
	s, _ := gaps.Set(0, 20, l)
	for i := range s[:cap(s)] {
		s[:cap(s)][i] = span.Span{From: 77, To: 78}
	}
	again, _ := gaps.Set(0, 20, l)
	over(gaps.Named(pdu.PDU{Kind: pdu.STAT, List: l}))
	gaps.Count(l)
	if !slices.Equal(back, []seq.Num{4, 6, 8, 9, 100, 100}) {
		t.Errorf("rule 5: the list that was handed in is %v", back)
	}
	if want := span.Of(span.Span{From: 4, To: 6}, span.Span{From: 8, To: 9}); !span.Same(again, want) {
		t.Errorf("rule 5: Set again = %v, want %v", again, want)
	}
	over(l)
	if !slices.Equal(gaps.List(0, again), []seq.Num{4, 6, 8, 9}) {
		t.Errorf("rule 5: Set kept what it was handed: %v", again)
	}
	room := slices.Clone(span.Set{{From: -4, To: 6}, {From: 8, To: 9}, {From: 5, To: 5}, {From: 5, To: 5}})
	first := gaps.List(0, room[:2])
	second := gaps.List(0, room[:2])
	over(first)
	if want := []seq.Num{0, 6, 8, 9}; !slices.Equal(second, want) {
		t.Errorf("rule 5: both answers of List share: %v, want %v", second, want)
	}
	if !slices.Equal(room, span.Set{{From: -4, To: 6}, {From: 8, To: 9}, {From: 5, To: 5}, {From: 5, To: 5}}) {
		t.Errorf("rule 5: the set that was handed in is %v", room)
	}
}

// TestEachCallAnswers is P1: any numbers, lists of any length.
func TestEachCallAnswers(t *testing.T) {
	r := rand.New(rand.NewSource(1))
	for i := range 300 {
		l := make([]seq.Num, r.Intn(400))
		for i := range l {
			l[i] = seq.Num(r.Uint32())
		}
		base, top := seq.Num(r.Uint32()), seq.Num(r.Uint32())
		if s, ok := gaps.Set(base, top, l); ok != maySet(base, top, l) || !ok && s != nil {
			t.Fatalf("P1: Set = %v, %v", s, ok)
		}
		kind := r.Intn(20) - 2
		if i%2 == 0 {
			kind = pdu.STAT
		}
		if n := len(gaps.Named(pdu.PDU{Kind: kind, List: l})); n > longest {
			t.Fatalf("P1: Named has %d numbers", n)
		}
		if gaps.Count(l) < 0 {
			t.Fatalf("P1: Count = %d", gaps.Count(l))
		}
		spans := make([]span.Span, r.Intn(50))
		for i := range spans {
			spans[i] = span.Span{From: r.Int() - r.Int(), To: r.Int() - r.Int()}
		}
		gaps.List(base, spans)
		gaps.List(base, span.Of(spans...))
	}
	if s, ok := gaps.Set(0, 0, nil); !ok || len(s) != 0 {
		t.Errorf("P1: Set of nothing = %v, %v", s, ok)
	}
	if s, ok := gaps.Set(0, half+1, nil); ok || s != nil {
		t.Errorf("P1: Set of nothing, top too far = %v, %v", s, ok)
	}
}
