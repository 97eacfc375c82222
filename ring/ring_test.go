package ring_test

import (
	"math"
	"math/rand"
	"slices"
	"strconv"
	"testing"

	"polliwog/api"
	"polliwog/ring"
)

const longest = 4096

// row is a row by a plain list, next to which a Ring is held.
type row struct {
	list []int
	most int
}

func (w *row) put(v int) api.Errno {
	if len(w.list) >= w.most {
		return api.ErrFull
	}
	w.list = append(slices.Clone(w.list), v)
	return api.OK
}

func (w *row) take() (int, api.Errno) {
	if len(w.list) == 0 {
		return 0, api.ErrNone
	}
	v := w.list[0]
	w.list = slices.Clone(w.list[1:])
	return v, api.OK
}

// check asks a Ring all that can be asked without changing it.
func check(t *testing.T, r *ring.Ring[int], w row) {
	t.Helper()
	n := len(w.list)
	if r.Len() != n || r.Room() != w.most-n || r.Most() != w.most || r.Len()+r.Room() != r.Most() {
		t.Fatalf("P4.1: Len %d, Room %d, Most %d; want %d of %d", r.Len(), r.Room(), r.Most(), n, w.most)
	}
	if all := r.All(); !slices.Equal(all, w.list) {
		t.Fatalf("P4.1: All = %v, want %v", all, w.list)
	}
	for i := range n {
		if v, ok := r.At(i); !ok || v != w.list[i] {
			t.Fatalf("P4.1: At(%d) = %d, %v of %v", i, v, ok, w.list)
		}
	}
	for _, i := range []int{math.MinInt, -longest - 1, -2, -1, n, n + 1, w.most, w.most + 1, longest, math.MaxInt} {
		if i < 0 || i >= n {
			if v, ok := r.At(i); ok || v != 0 {
				t.Fatalf("P4.1: At(%d) = %d, %v of %d", i, v, ok, n)
			}
		}
	}
	v, err := r.First()
	switch {
	case n == 0 && (v != 0 || err != api.ErrNone):
		t.Fatalf("P4.1: First of none = %d, %d", v, err)
	case n > 0 && (v != w.list[0] || err != api.OK):
		t.Fatalf("P4.1: First = %d, %d of %v", v, err, w.list)
	}
}

func put(t *testing.T, r *ring.Ring[int], w *row, v int) {
	t.Helper()
	if got, want := r.Put(v), w.put(v); got != want {
		t.Fatalf("P4.2: Put(%d) = %d, want %d", v, got, want)
	}
}

func take(t *testing.T, r *ring.Ring[int], w *row) {
	t.Helper()
	v, err := r.Take()
	if want, wantErr := w.take(); v != want || err != wantErr {
		t.Fatalf("P4.2: Take = %d, %d, want %d, %d", v, err, want, wantErr)
	}
}

// round is a Ring, and its row, of which the first one stands somewhere in the midst.
func round(t *testing.T, most, gone, many int) (*ring.Ring[int], row) {
	t.Helper()
	r, w := ring.New[int](most), row{most: most}
	for i := range most {
		put(t, r, &w, 100+i)
	}
	for range gone {
		take(t, r, &w)
	}
	for i := range most {
		if len(w.list) < many {
			put(t, r, &w, 200+i)
		}
	}
	for len(w.list) > many {
		take(t, r, &w)
	}
	return r, w
}

func TestExample(t *testing.T) {
	r := ring.New[string](2)
	if r.Put("a") != api.OK || r.Put("b") != api.OK || r.Put("c") != api.ErrFull {
		t.Errorf("P4.1: Put a, b, c")
	}
	if v, err := r.Take(); v != "a" || err != api.OK {
		t.Errorf("P4.2: Take = %q, %d", v, err)
	}
	if all := r.All(); !slices.Equal(all, []string{"b"}) {
		t.Errorf("P4.2: All = %q", all)
	}
}

func TestMostCountsAsTheNearest(t *testing.T) {
	for _, c := range []struct{ most, want int }{
		{math.MinInt, 0}, {math.MinInt32, 0}, {-longest, 0}, {-2, 0}, {-1, 0}, {0, 0}, {1, 1}, {2, 2}, {3, 3}, {64, 64}, {100, 100},
		{longest - 1, longest - 1}, {longest, longest}, {longest + 1, longest}, {1 << 20, longest}, {1 << 40, longest}, {math.MaxInt, longest},
	} {
		r, w := ring.New[int](c.most), row{most: c.want}
		check(t, r, w)
		for i := range c.want {
			put(t, r, &w, i)
		}
		check(t, r, w)
		for range 3 {
			put(t, r, &w, -5)
		}
		check(t, r, w)
		for range c.want + 2 {
			take(t, r, &w)
		}
		check(t, r, w)
	}
}

// TestRowOfNone is of a row in which nothing ever stands.
func TestRowOfNone(t *testing.T) {
	for _, most := range []int{0, -1, math.MinInt} {
		r := ring.New[string](most)
		for range 3 {
			if r.Put("x") != api.ErrFull {
				t.Errorf("P4.1: Put into a row of %d", most)
			}
			if v, err := r.Take(); v != "" || err != api.ErrNone {
				t.Errorf("P4.1: Take from a row of %d: %q, %d", most, v, err)
			}
			if v, err := r.First(); v != "" || err != api.ErrNone {
				t.Errorf("P4.1: First of a row of %d: %q, %d", most, v, err)
			}
			if v, ok := r.At(0); ok || v != "" || len(r.All()) != 0 || len(r.Clear()) != 0 {
				t.Errorf("P4.1: a row of %d has some", most)
			}
			if c := r.Clone(); c == r || c.Most() != 0 || c.Room() != 0 || c.Len() != 0 || c.Put("y") != api.ErrFull {
				t.Errorf("P4.1: the Clone of a row of %d", most)
			}
		}
	}
}

// TestFilledEmptiedAndFilledAgain goes over the end of rows of all small sizes, from each place on.
func TestFilledEmptiedAndFilledAgain(t *testing.T) {
	for most := range 20 {
		for step := range most + 2 {
			r, w := ring.New[int](most), row{most: most}
			for turn := range 2*most + 3 {
				for i := range step {
					put(t, r, &w, 1000*turn+i)
					check(t, r, w)
				}
				for i := range most {
					put(t, r, &w, 1000*turn+500+i)
				}
				check(t, r, w)
				for range step {
					take(t, r, &w)
					check(t, r, w)
				}
				if turn%3 == 2 {
					for range most {
						take(t, r, &w)
					}
					check(t, r, w)
				}
			}
		}
	}
}

// TestGrowsInTheMidst fills rows that have grown to some size, and gone round, before they grow on.
func TestGrowsInTheMidst(t *testing.T) {
	for many := range 40 {
		for gone := range many + 1 {
			r, w := ring.New[int](100), row{most: 100}
			for i := range many {
				put(t, r, &w, i)
			}
			for range gone {
				take(t, r, &w)
			}
			for i := range 101 {
				put(t, r, &w, 100+i)
				if i%7 == 0 || i < 9 {
					check(t, r, w)
				}
			}
			for range 102 {
				take(t, r, &w)
			}
			check(t, r, w)
		}
	}
}

func TestWholeRowOverItsEnd(t *testing.T) {
	r, w := ring.New[int](longest), row{most: longest}
	for i := range longest {
		if r.Put(i) != api.OK {
			t.Fatalf("P4.2: Put(%d)", i)
		}
	}
	for i := range longest {
		w.list = append(w.list, i)
	}
	check(t, r, w)
	for i := range 2 * longest {
		if v, err := r.Take(); v != i || err != api.OK {
			t.Fatalf("P4.2: Take = %d, %d, want %d", v, err, i)
		}
		if r.Put(longest+i) != api.OK || r.Put(-1) != api.ErrFull || r.Len() != longest {
			t.Fatalf("P4.2: Put(%d)", longest+i)
		}
	}
	for i := range w.list {
		w.list[i] = 2*longest + i
	}
	check(t, r, w)
	if l := r.Clear(); !slices.Equal(l, w.list) {
		t.Errorf("P4.1: Clear of %d", longest)
	}
	check(t, r, row{most: longest})
}

// TestAllClearAtAndCloneGoneRound asks rows of which the first one stands at each place, and of each length.
func TestAllClearAtAndCloneGoneRound(t *testing.T) {
	for most := range 10 {
		for gone := range most + 1 {
			for many := range most + 1 {
				r, w := round(t, most, gone, many)
				check(t, r, w)
				c := r.Clone()
				check(t, c, w)
				if l := r.Clear(); !slices.Equal(l, w.list) {
					t.Fatalf("P4.1: Clear = %v, want %v", l, w.list)
				}
				check(t, r, row{most: most})
				check(t, c, w)
				if l := r.Clear(); len(l) != 0 {
					t.Fatalf("P4.1: Clear of none = %v", l)
				}
				empty := row{most: most}
				for i := range most + 1 {
					put(t, r, &empty, 300+i)
					check(t, r, empty)
				}
				for range most + 1 {
					take(t, r, &empty)
					check(t, r, empty)
				}
				for range most + 1 {
					take(t, c, &w)
					check(t, c, w)
				}
			}
		}
	}
}

// TestCloneGoesItsOwnWay does unlike things to a row and its clone.
func TestCloneGoesItsOwnWay(t *testing.T) {
	for most := range 9 {
		for gone := range most + 1 {
			for many := range most + 1 {
				r, w := round(t, most, gone, many)
				c, v := r.Clone(), row{slices.Clone(w.list), w.most}
				for i := range 2*most + 2 {
					put(t, r, &w, 400+i)
					check(t, c, v)
					take(t, c, &v)
					check(t, r, w)
					put(t, c, &v, 500+i)
					take(t, c, &v)
					take(t, r, &w)
					check(t, r, w)
					check(t, c, v)
				}
				c.Clear()
				check(t, r, w)
				check(t, r.Clone().Clone(), w)
			}
		}
	}
}

// TestAnyCalls does what a fixed draw says, on many rows at once that are clones of one another.
func TestAnyCalls(t *testing.T) {
	for seed := range 40 {
		random := rand.New(rand.NewSource(int64(seed)))
		most := random.Intn(12)
		rings, rows := []*ring.Ring[int]{ring.New[int](most)}, []row{{most: most}}
		for step := range 1500 {
			i := random.Intn(len(rings))
			r, w := rings[i], &rows[i]
			switch random.Intn(20) {
			case 0:
				if l := r.Clear(); !slices.Equal(l, w.list) {
					t.Fatalf("P4.1: Clear = %v, want %v", l, w.list)
				}
				w.list = nil
			case 1:
				if len(rings) < 6 {
					rings, rows = append(rings, r.Clone()), append(rows, row{slices.Clone(w.list), most})
				}
			case 2, 3, 4, 5, 6, 7, 8:
				take(t, r, w)
			default:
				put(t, r, w, step)
			}
			for j := range rings {
				check(t, rings[j], rows[j])
			}
		}
	}
}

// TestErrorsChangeNothing is rule 3: what is refused leaves all as it was.
func TestErrorsChangeNothing(t *testing.T) {
	for most := range 6 {
		for gone := range most + 1 {
			full, w := round(t, most, gone, most)
			for range 2*most + 3 {
				if full.Put(9) != api.ErrFull {
					t.Fatalf("P4.1: Put into a full row of %d", most)
				}
				check(t, full, w)
			}
			none, empty := round(t, most, gone, 0)
			for range 2*most + 3 {
				if v, err := none.Take(); v != 0 || err != api.ErrNone {
					t.Fatalf("P4.1: Take of none = %d, %d", v, err)
				}
				check(t, none, empty)
			}
			for i := range most {
				put(t, none, &empty, i)
			}
			check(t, none, empty)
		}
	}
}

// TestAnswersAreNew is rule 5: lists that were answered are written over, to their last spare place, and all else stays.
func TestAnswersAreNew(t *testing.T) {
	for most := 1; most < 8; most++ {
		for gone := range most + 1 {
			for many := range most + 1 {
				r, w := round(t, most, gone, many)
				c := r.Clone()
				one, two := r.All(), r.All()
				spoil(one)
				check(t, r, w)
				check(t, c, w)
				cleared := c.Clear()
				for i := range most {
					c.Put(600 + i)
				}
				if !slices.Equal(two, w.list) || !slices.Equal(cleared, w.list) {
					t.Fatalf("P4.1: %v and %v aren't their own", two, cleared)
				}
				after := c.All()
				spoil(cleared)
				if !slices.Equal(c.All(), after) || !slices.Equal(two, w.list) {
					t.Fatalf("P4.1: what Clear answers isn't its own")
				}
				spoil(two)
				check(t, r, w)
			}
		}
	}
}

func spoil(l []int) {
	l = l[:cap(l)]
	for i := range l {
		l[i] = -99
	}
}

type pair struct {
	name  string
	place [2]int
}

// TestOfAnyType asks rows of texts, of structs, of pointers, of lists, of functions, of errors, and of nothing at all.
func TestOfAnyType(t *testing.T) {
	texts := ring.New[string](5)
	pairs := ring.New[pair](5)
	pointers := ring.New[*int](5)
	lists := ring.New[[]byte](5)
	functions := ring.New[func() int](5)
	errnos := ring.New[error](5)
	empties := ring.New[struct{}](5)
	for i := range 23 {
		name, n := strconv.Itoa(i), i
		texts.Put(name)
		pairs.Put(pair{name, [2]int{i, -i}})
		pointers.Put(&n)
		lists.Put([]byte(name))
		functions.Put(func() int { return n })
		errnos.Put(strconv.ErrRange)
		empties.Put(struct{}{})
		text, err := texts.Take()
		if text != name || err != api.OK {
			t.Errorf("P4.2: Take of texts = %q, %d", text, err)
		}
		if v, err := pairs.Take(); v != (pair{name, [2]int{i, -i}}) || err != api.OK {
			t.Errorf("P4.2: Take of structs = %v, %d", v, err)
		}
		if v, err := pointers.Take(); v != &n || err != api.OK {
			t.Errorf("P4.2: Take of pointers, %d", err)
		}
		if v, err := lists.Take(); string(v) != name || err != api.OK {
			t.Errorf("P4.2: Take of lists = %q, %d", v, err)
		}
		if v, err := functions.Take(); err != api.OK || v() != i {
			t.Errorf("P4.2: Take of functions, %d", err)
		}
		if v, err := errnos.Take(); v != strconv.ErrRange || err != api.OK {
			t.Errorf("P4.2: Take of errors = %v, %d", v, err)
		}
		if _, err := empties.Take(); err != api.OK || empties.Len() != 0 {
			t.Errorf("P4.2: Take of empty ones, %d", err)
		}
	}
	checkZeroes(t, pointers, lists, functions, errnos)
	for i := range 7 {
		if err := empties.Put(struct{}{}); (err == api.OK) != (i < 5) || len(empties.All()) != min(i+1, 5) {
			t.Errorf("P4.1: Put of empty ones: %d", err)
		}
	}
}

// checkZeroes asks rows of none for what isn't there: it is zero.
func checkZeroes(t *testing.T, pointers *ring.Ring[*int], lists *ring.Ring[[]byte], functions *ring.Ring[func() int], errnos *ring.Ring[error]) {
	t.Helper()
	if v, err := pointers.Take(); v != nil || err != api.ErrNone {
		t.Errorf("P4.1: Take of no pointers: %d", err)
	}
	if v, ok := lists.At(0); v != nil || ok {
		t.Errorf("P4.1: At of no lists = %v", v)
	}
	if v, err := functions.First(); v != nil || err != api.ErrNone {
		t.Errorf("P4.1: First of no functions: %d", err)
	}
	if v, err := errnos.First(); v != nil || err != api.ErrNone {
		t.Errorf("P4.1: First of no errors = %v, %d", v, err)
	}
}

// TestTakenInOrderEachOnce is P4.2, of rows of all sizes that are filled and emptied in waves.
func TestTakenInOrderEachOnce(t *testing.T) {
	for _, most := range []int{1, 2, 3, 7, 8, 9, 64, 100, 256, 1000, longest, longest + 1} {
		r := ring.New[int](most)
		next, want := 0, 0
		for wave := range 60 {
			for range (wave*37)%most + 1 {
				if r.Put(next) == api.OK {
					next++
				}
			}
			for range (wave*53)%most + 1 {
				v, err := r.Take()
				if err == api.ErrNone {
					break
				}
				if v != want {
					t.Fatalf("P4.2: row of %d: %d taken, want %d", most, v, want)
				}
				want++
			}
		}
		for _, v := range r.Clear() {
			if v != want {
				t.Fatalf("P4.2: row of %d: %d cleared, want %d", most, v, want)
			}
			want++
		}
		if want != next {
			t.Fatalf("P4.2: row of %d: %d came of %d", most, want, next)
		}
	}
}

// TestEachCallAnswers is P1 of the document: no call panics, and each ends, at all values.
func TestEachCallAnswers(t *testing.T) {
	edges := []int{math.MinInt, math.MinInt + 1, -longest, -1, 0, 1, 2, longest - 1, longest, longest + 1, math.MaxInt - 1, math.MaxInt}
	for _, most := range edges {
		r := ring.New[int](most)
		for _, v := range edges {
			r.Put(v)
			for _, i := range edges {
				if _, ok := r.At(i); ok != (i >= 0 && i < r.Len()) {
					t.Errorf("P1: row of %d, At(%d) of %d", most, i, r.Len())
				}
			}
		}
		first, err := r.First()
		taken, takenErr := r.Take()
		if first != taken || err != takenErr || r.Clone().Len() != len(r.All()) || len(r.All()) != len(r.Clear()) {
			t.Errorf("P1: row of %d: %d, %d", most, first, taken)
		}
	}
}
