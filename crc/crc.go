// Package crc is layer 2: sums of bytes, by a table that is made and handed
// down. See shared/doc/02-crc.md.
package crc

const (
	polynomial = 0x04c11db7
	highest    = 1 << 31 // the bit of the register that goes out first
	ones       = 1<<32 - 1
	sumSize    = 4 // bytes of a sum
)

// Table says what each byte makes of a register that is 0 else.
type Table [256]uint32

// Make is the table: entry b is the register 0, moved on by b.
func Make() Table {
	var t Table
	for b := range len(t) {
		t[b] = shifted(uint32(b) << 24)
	}
	return t
}

// shifted is the register behind the eight shifts of one byte.
func shifted(register uint32) uint32 {
	for range 8 {
		out := register&highest != 0
		register <<= 1
		if out {
			register ^= polynomial
		}
	}
	return register
}

// Sum is the sum of the texts, one behind the other.
func (t *Table) Sum(l ...string) uint32 {
	register := uint32(ones)
	for _, s := range l {
		register = t.moved(register, s)
	}
	return ^register
}

// moved is the register, moved on by each byte of s.
func (t *Table) moved(register uint32, s string) uint32 {
	// By a number, not over the text: a range over a text answers letters,
	// and bytes above 127 would be lost.
	for i := range len(s) {
		register = register<<8 ^ t[byte(register>>24)^s[i]]
	}
	return register
}

// Fits tells whether the last four bytes of s are the sum of those ahead.
func (t *Table) Fits(s string) bool {
	seam := len(s) - sumSize
	return seam >= 0 && s[seam:] == sumBytes(t.Sum(s[:seam]))
}

// Seal is s and the four bytes of its sum.
func (t *Table) Seal(s string) string { return s + sumBytes(t.Sum(s)) }

// sumBytes is a sum as four bytes, the highest one first.
func sumBytes(sum uint32) string {
	return string([]byte{byte(sum >> 24), byte(sum >> 16), byte(sum >> 8), byte(sum)})
}
