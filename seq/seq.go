// Package seq is layer 1: numbers of 24 bits, round about. See shared/doc/01-seq.md.
package seq

// Num is a number of 24 bits; a greater value counts as its lowest 24 bits.
type Num uint32

const (
	modulus = 1 << 24
	half    = modulus / 2
	mask    = modulus - 1
	longest = 65536 // how many numbers Run answers at most
)

// Of is the number of any x, modulo 2^24.
func Of(x int) Num {
	// The lowest bits of a number below 0 are those of its remainder already.
	return Num(x) & mask
}

// Low is the number that a counts as.
func (a Num) Low() Num { return a & mask }

// Add is the number n further on; n below 0 goes back.
func (a Num) Add(n int) Num { return (a + Of(n)) & mask }

// To is how far it is from a to b, going on: 0 to 2^24 - 1.
func (a Num) To(b Num) int { return int((b - a) & mask) }

// Ahead tells whether b lies ahead of a, by less than half of the way round.
func (a Num) Ahead(b Num) bool {
	far := a.To(b)
	return far > 0 && far < half
}

// Within tells whether one comes to x, going on from a, ahead of b or at it.
func Within(a, x, b Num) bool { return a.To(x) <= a.To(b) }

// Between tells whether one comes to x, going on from a, ahead of b.
func Between(a, x, b Num) bool { return a.To(x) < a.To(b) }

// Max is the one of a and b that is further from base.
func Max(base, a, b Num) Num {
	if base.To(a) < base.To(b) {
		return b.Low()
	}
	return a.Low()
}

// Run is n numbers from a on, one behind the other: none for n below 0, and
// never more than 65536.
func Run(a Num, n int) []Num {
	l := make([]Num, min(max(n, 0), longest))
	for i := range len(l) {
		l[i] = a.Add(i)
	}
	return l
}
