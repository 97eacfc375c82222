package seq_test

import (
	"math"
	"testing"

	"polliwog/seq"
)

const (
	modulus = 1 << 24
	half    = 1 << 23
	top     = seq.Num(modulus - 1)
)

// edges are the numbers at which something changes, and greater values that
// count as their lowest 24 bits.
var edges = []seq.Num{
	0, 1, 2, 3, 4, 77,
	half - 2, half - 1, half, half + 1, half + 2,
	modulus - 3, modulus - 2, modulus - 1,
	modulus, modulus + 1, modulus + half, modulus + half + 1, 2*modulus - 1,
	2*modulus + 9, 1<<31 - 1, 1 << 31, 1<<31 + half, math.MaxUint32 - 1, math.MaxUint32,
}

// steps are how far one goes, also below 0 and beyond the way round.
var steps = []int{
	math.MinInt, math.MinInt + 1, math.MinInt32, -5*modulus - 7, -modulus - 1, -modulus, -modulus + 1,
	-half - 1, -half, -half + 1, -2, -1, 0, 1, 2, 3, 255, half - 1, half, half + 1,
	modulus - 1, modulus, modulus + 1, 3*modulus + 8, math.MaxInt32, math.MaxUint32, 1 << 40, math.MaxInt - 1, math.MaxInt,
}

// rest is the number of x by division: another way than that of the program.
func rest(x int64) int64 { return (x%modulus + modulus) % modulus }

func low(a seq.Num) int64 { return rest(int64(a)) }

// far is how far it is from a to b.
func far(a, b seq.Num) int64 { return rest(low(b) - low(a)) }

func TestOfIsModulo(t *testing.T) {
	for _, c := range []struct {
		x    int
		want seq.Num
	}{
		{0, 0}, {1, 1}, {-1, top}, {-2, top - 1}, {modulus - 1, top}, {modulus, 0}, {modulus + 5, 5},
		{-modulus, 0}, {-modulus - 1, top}, {-modulus + 1, 1}, {half, half}, {-half, half}, {1<<40 + 3, 3},
		{math.MaxInt, top}, {math.MinInt, 0},
	} {
		if got := seq.Of(c.x); got != c.want {
			t.Errorf("P1.1: Of(%d) = %d, want %d", c.x, got, c.want)
		}
	}
	for _, x := range steps {
		if got := seq.Of(x); int64(got) != rest(int64(x)) {
			t.Errorf("P1.1: Of(%d) = %d, want %d", x, got, rest(int64(x)))
		}
	}
}

func TestLowIsLowestBits(t *testing.T) {
	for _, c := range []struct{ a, want seq.Num }{
		{0, 0}, {5, 5}, {top, top}, {modulus, 0}, {modulus + 5, 5}, {2*modulus + 9, 9}, {math.MaxUint32, top}, {1 << 31, 0},
	} {
		if got := c.a.Low(); got != c.want {
			t.Errorf("P1.1: %d.Low() = %d, want %d", c.a, got, c.want)
		}
	}
	for _, a := range edges {
		if got := a.Low(); int64(got) != low(a) {
			t.Errorf("P1.1: %d.Low() = %d, want %d", a, got, low(a))
		}
	}
}

func TestAddGoesOnAndBack(t *testing.T) {
	for _, c := range []struct {
		a    seq.Num
		n    int
		want seq.Num
	}{
		{0, 0, 0}, {5, 3, 8}, {top, 1, 0}, {top, 2, 1}, {0, -1, top}, {3, -5, top - 1},
		{9, modulus, 9}, {9, -modulus, 9}, {9, half, half + 9}, {half + 9, half, 9},
		{modulus + 4, 1, 5}, {math.MaxUint32, 1, 0}, {math.MaxUint32, 0, top},
		{1, math.MaxInt, 0}, {1, math.MinInt, 1}, {0, math.MinInt + 1, 1},
	} {
		if got := c.a.Add(c.n); got != c.want {
			t.Errorf("P1.1: %d.Add(%d) = %d, want %d", c.a, c.n, got, c.want)
		}
	}
	for _, a := range edges {
		for _, n := range steps {
			want := rest(low(a) + rest(int64(n)))
			if got := a.Add(n); int64(got) != want {
				t.Errorf("P1.1: %d.Add(%d) = %d, want %d", a, n, got, want)
			}
		}
	}
}

func TestToIsHowFar(t *testing.T) {
	for _, c := range []struct {
		a, b seq.Num
		want int
	}{
		{top, 1, 2}, {1, top, modulus - 2}, {0, 0, 0}, {top, top, 0}, {4, 9, 5}, {9, 4, modulus - 5},
		{0, half, half}, {half, 0, half}, {top, 0, 1}, {0, top, modulus - 1},
		{modulus, 3, 3}, {3, modulus + 3, 0}, {math.MaxUint32, 0, 1}, {0, math.MaxUint32, modulus - 1},
	} {
		if got := c.a.To(c.b); got != c.want {
			t.Errorf("P1.1: %d.To(%d) = %d, want %d", c.a, c.b, got, c.want)
		}
	}
	for _, a := range edges {
		for _, b := range edges {
			if got := a.To(b); int64(got) != far(a, b) {
				t.Errorf("P1.1: %d.To(%d) = %d, want %d", a, b, got, far(a, b))
			}
		}
	}
}

func TestAheadIsLessThanHalfOfTheWay(t *testing.T) {
	for _, a := range edges {
		for _, c := range []struct {
			n    int
			want bool
		}{
			{0, false}, {1, true}, {2, true}, {half - 2, true}, {half - 1, true}, {half, false},
			{half + 1, false}, {modulus - 2, false}, {modulus - 1, false}, {-1, false}, {modulus, false}, {modulus + 1, true},
		} {
			if got := a.Ahead(a.Add(c.n)); got != c.want {
				t.Errorf("P1.1: %d.Ahead of the one %d further = %v", a, c.n, got)
			}
		}
		for _, b := range edges {
			want := far(a, b) > 0 && far(a, b) < half
			if got := a.Ahead(b); got != want {
				t.Errorf("P1.1: %d.Ahead(%d) = %v", a, b, got)
			}
		}
	}
}

func TestWithinAndBetween(t *testing.T) {
	for _, c := range []struct {
		a, x, b         seq.Num
		within, between bool
	}{
		{2, 2, 5, true, true}, {2, 4, 5, true, true}, {2, 5, 5, true, false}, {2, 6, 5, false, false}, {2, 1, 5, false, false},
		{7, 7, 7, true, false}, {7, 8, 7, false, false}, {7, 6, 7, false, false},
		{top, top, 2, true, true}, {top, 0, 2, true, true}, {top, 1, 2, true, true}, {top, 2, 2, true, false},
		{top, 3, 2, false, false}, {top, top - 1, 2, false, false},
		{5, 0, 4, true, true}, {5, top, 4, true, true}, {5, 4, 4, true, false}, {5, 3, 4, true, true},
		{0, half, top, true, true}, {0, top, half, false, false}, {half, 0, half - 1, true, true},
		{modulus + 2, 2, 5, true, true}, {2, modulus + 5, 5, true, false}, {2, 5, modulus + 5, true, false},
		{7, modulus + 7, 2*modulus + 7, true, false}, {math.MaxUint32, 0, modulus, true, false},
	} {
		if got := seq.Within(c.a, c.x, c.b); got != c.within {
			t.Errorf("P1.1: Within(%d, %d, %d) = %v", c.a, c.x, c.b, got)
		}
		if got := seq.Between(c.a, c.x, c.b); got != c.between {
			t.Errorf("P1.1: Between(%d, %d, %d) = %v", c.a, c.x, c.b, got)
		}
	}
	for _, a := range edges {
		for _, x := range edges {
			for _, b := range edges {
				if got := seq.Within(a, x, b); got != (far(a, x) <= far(a, b)) {
					t.Errorf("P1.1: Within(%d, %d, %d) = %v", a, x, b, got)
				}
				if got := seq.Between(a, x, b); got != (far(a, x) < far(a, b)) {
					t.Errorf("P1.1: Between(%d, %d, %d) = %v", a, x, b, got)
				}
			}
		}
	}
}

// TestWithinByGoing goes on number by number, as the document tells it.
func TestWithinByGoing(t *testing.T) {
	for _, a := range []seq.Num{0, 6, half - 3, modulus - 4, modulus - 1, math.MaxUint32 - 2} {
		for n := range 9 {
			b := a.Add(n)
			met := map[seq.Num]bool{}
			for i := range n {
				met[a.Add(i)] = true
			}
			for i := -3; i < 12; i++ {
				x := a.Add(i)
				if got := seq.Between(a, x, b); got != met[x] {
					t.Errorf("P1.1: Between(%d, %d, %d) = %v", a, x, b, got)
				}
				if got := seq.Within(a, x, b); got != (met[x] || x == b) {
					t.Errorf("P1.1: Within(%d, %d, %d) = %v", a, x, b, got)
				}
			}
		}
	}
}

func TestMaxIsFurther(t *testing.T) {
	for _, c := range []struct{ base, a, b, want seq.Num }{
		{0, 3, 5, 5}, {0, 5, 3, 5}, {3, 1, 5, 1}, {3, 5, 1, 1}, {top, 0, 5, 5}, {top, top, 0, 0}, {top, top, top - 1, top - 1},
		{4, 4, 4, 4}, {4, 4, 5, 5}, {4, 5, 4, 5}, {0, half, half + 1, half + 1}, {half, half - 1, 0, half - 1},
		{0, modulus + 3, 2, 3}, {0, 2, modulus + 3, 3}, {0, modulus + 3, 3, 3}, {modulus + 3, 1, 5, 1},
		{0, math.MaxUint32, 1, top}, {math.MaxUint32, math.MaxUint32, modulus, 0}, {5, modulus + 5, 2*modulus + 5, 5},
	} {
		if got := seq.Max(c.base, c.a, c.b); got != c.want {
			t.Errorf("P1.1: Max(%d, %d, %d) = %d, want %d", c.base, c.a, c.b, got, c.want)
		}
	}
	for _, base := range edges {
		for _, a := range edges {
			for _, b := range edges {
				want := rest(low(base) + max(far(base, a), far(base, b)))
				if got := seq.Max(base, a, b); int64(got) != want {
					t.Errorf("P1.1: Max(%d, %d, %d) = %d, want %d", base, a, b, got, want)
				}
			}
		}
	}
}

func TestRunIsOneBehindTheOther(t *testing.T) {
	for _, c := range []struct{ n, want int }{
		{math.MinInt, 0}, {-modulus, 0}, {-1, 0}, {0, 0}, {1, 1}, {2, 2}, {7, 7}, {4096, 4096}, {65535, 65535}, {65536, 65536},
		{65537, 65536}, {1 << 17, 65536}, {modulus, 65536}, {math.MaxUint32 + 1, 65536}, {math.MaxInt, 65536},
	} {
		for _, a := range []seq.Num{0, 1, half - 2, top - 2, top, modulus + 5, math.MaxUint32, modulus - 65536, modulus - 65535} {
			l := seq.Run(a, c.n)
			if len(l) != c.want {
				t.Fatalf("P1.1: Run(%d, %d) has %d", a, c.n, len(l))
			}
			for i, x := range l {
				if int64(x) != rest(low(a)+int64(i)) {
					t.Fatalf("P1.1: Run(%d, %d)[%d] = %d", a, c.n, i, x)
				}
			}
		}
	}
	if l := seq.Run(top, 3); len(l) != 3 || l[0] != top || l[1] != 0 || l[2] != 1 {
		t.Errorf("P1.1: Run over the end = %v", l)
	}
}

// TestRunIsNewMemory writes into an answer, and asks again.
func TestRunIsNewMemory(t *testing.T) {
	for _, n := range []int{3, 65536} {
		one, two := seq.Run(5, n), seq.Run(5, n)
		for i := range one {
			one[i] = 99
		}
		one = append(one, 99)
		three := seq.Run(5, n)
		for i := range n {
			if want := seq.Num(5 + i); two[i] != want || three[i] != want {
				t.Fatalf("P1.1: Run(5, %d) shares: %d %d at %d", n, two[i], three[i], i)
			}
		}
	}
}

func TestAlikeIsAlike(t *testing.T) {
	for _, a := range edges {
		for _, b := range edges {
			if a.To(b) != a.To(b) || a.Ahead(b) != a.Ahead(b) || seq.Max(1, a, b) != seq.Max(1, a, b) {
				t.Errorf("P1.1: %d and %d, asked twice", a, b)
			}
		}
	}
}

func TestRoundAbout(t *testing.T) {
	for _, a := range edges {
		for _, n := range steps {
			if got := a.To(a.Add(n)); int64(got) != rest(int64(n)) {
				t.Errorf("P1.2: %d.To(%d.Add(%d)) = %d", a, a, n, got)
			}
			if got := a.Add(n).Add(-n); got != a.Low() {
				t.Errorf("P1.2: %d, %d on and back = %d", a, n, got)
			}
		}
		for _, b := range edges {
			if got := a.Add(a.To(b)); got != b.Low() {
				t.Errorf("P1.2: %d.Add(%d.To(%d)) = %d", a, a, b, got)
			}
			want := modulus
			if a.Low() == b.Low() {
				want = 0
			}
			if got := a.To(b) + b.To(a); got != want {
				t.Errorf("P1.2: %d to %d and back = %d", a, b, got)
			}
		}
	}
}

// TestMovedOnAlike moves all numbers on alike: by each step, and as far as
// the way round goes in the bits above the 24.
func TestMovedOnAlike(t *testing.T) {
	for _, n := range []int{1, -1, 5, half - 1, half, half + 1, modulus - 2, modulus, -modulus, 1<<40 + 77, math.MinInt + 3, math.MaxInt} {
		for _, a := range edges {
			for _, b := range edges {
				onA, onB := a.Add(n), b.Add(n)
				if onA.To(onB) != a.To(b) || onA.Ahead(onB) != a.Ahead(b) {
					t.Errorf("P1.3: %d and %d, moved on by %d", a, b, n)
				}
				checkMoved(t, a, b, n)
			}
		}
	}
}

func checkMoved(t *testing.T, a, b seq.Num, n int) {
	onA, onB := a.Add(n), b.Add(n)
	for _, x := range edges {
		onX := x.Add(n)
		if seq.Within(onA, onX, onB) != seq.Within(a, x, b) || seq.Between(onA, onX, onB) != seq.Between(a, x, b) {
			t.Errorf("P1.3: %d, %d, %d on the way, moved on by %d", a, x, b, n)
		}
		if seq.Max(onX, onA, onB) != seq.Max(x, a, b).Add(n) {
			t.Errorf("P1.3: Max(%d, %d, %d), moved on by %d", x, a, b, n)
		}
	}
	if onA.Add(3) != a.Add(3).Add(n) {
		t.Errorf("P1.3: %d.Add(3), moved on by %d", a, n)
	}
}

func TestRunMovedOnAlike(t *testing.T) {
	for _, n := range steps {
		for _, a := range edges {
			l, on := seq.Run(a, 9), seq.Run(a.Add(n), 9)
			if len(l) != 9 || len(on) != 9 {
				t.Fatalf("P1.3: Run(%d, 9) has %d and %d", a, len(l), len(on))
			}
			for i := range l {
				if on[i] != l[i].Add(n) {
					t.Errorf("P1.3: Run(%d, 9)[%d], moved on by %d", a, i, n)
				}
			}
		}
	}
}

// TestEachCallAnswers is P1 of the document: no call panics, and each ends, at all values.
func TestEachCallAnswers(t *testing.T) {
	for _, n := range steps {
		if l := seq.Run(top, n); seq.Of(n) > top || len(l) > 65536 {
			t.Errorf("P1: Of(%d) = %d, Run has %d", n, seq.Of(n), len(l))
		}
		for _, a := range edges {
			if a.Low() > top || a.Add(n) > top {
				t.Errorf("P1: %d.Low() = %d, %d.Add(%d) = %d", a, a.Low(), a, n, a.Add(n))
			}
		}
	}
	for _, a := range edges {
		for _, b := range edges {
			if far := a.To(b); far < 0 || far >= modulus || a.Ahead(b) && far == 0 {
				t.Errorf("P1: %d.To(%d) = %d", a, b, far)
			}
			for _, x := range edges {
				if seq.Max(a, x, b) > top || seq.Between(a, x, b) && !seq.Within(a, x, b) {
					t.Errorf("P1: Max, Between or Within of %d, %d, %d", a, x, b)
				}
			}
		}
	}
}
