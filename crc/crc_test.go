package crc_test

import (
	"hash/crc32"
	"math/bits"
	"math/rand"
	"strings"
	"testing"

	"polliwog/crc"
)

// texts are of many lengths, and of all bytes, also of those that are no letters.
func texts() []string {
	all := make([]byte, 256)
	for i := range all {
		all[i] = byte(i)
	}
	l := []string{
		"", "a", "ab", "abc", "abcd", "abcde", "123456789", "\x00", "\x00\x00\x00\x00", "\x00\x00\x00\x00\x00",
		"\xff", "\xff\xff\xff\xff", "\x80\x81\xfe", "gr\u00fc\u00df\u4e16\U0001f438", string(all), strings.Repeat("q\xa5", 40000),
	}
	for n := range 70 {
		l = append(l, string(all[256-n:]), strings.Repeat("\x00", n))
	}
	return l
}

// sumOf is the sum as the document tells it, bit by bit, with no table.
func sumOf(s string) uint32 {
	register := uint32(0xffffffff)
	for i := 0; i < len(s); i++ {
		register = moveOn(register, s[i])
	}
	return 0xffffffff ^ register
}

func moveOn(register uint32, b byte) uint32 {
	register ^= uint32(b) << 24
	for bit := 0; bit < 8; bit++ {
		out := register >> 31
		register = register<<1 ^ out*0x04c11db7
	}
	return register
}

// librarySum is the same sum by the library's, which takes bits the other way round.
func librarySum(s string) uint32 {
	turned := []byte(s)
	for i := range turned {
		turned[i] = bits.Reverse8(turned[i])
	}
	return bits.Reverse32(crc32.ChecksumIEEE(turned))
}

func tail(sum uint32) string {
	return string([]byte{byte(sum >> 24), byte(sum >> 16), byte(sum >> 8), byte(sum)})
}

// fits tells the same as Fits, with no table.
func fits(s string) bool {
	return len(s) >= 4 && s[len(s)-4:] == tail(sumOf(s[:len(s)-4]))
}

func TestMakeIsEachByteMovedOn(t *testing.T) {
	table := crc.Make()
	for b := range 256 {
		if want := moveOn(0, byte(b)); table[b] != want {
			t.Errorf("P2.1: Make()[%d] = %08x, want %08x", b, table[b], want)
		}
	}
	for b, want := range map[int]uint32{0: 0, 1: 0x04c11db7, 2: 0x09823b6e, 16: 0x4c11db70, 255: 0xb1f740b4} {
		if table[b] != want {
			t.Errorf("P2.1: Make()[%d] = %08x, want %08x", b, table[b], want)
		}
	}
}

func TestMakeIsAlikeAndItsOwn(t *testing.T) {
	one := crc.Make()
	one[7] = 1
	two := crc.Make()
	if two[7] != moveOn(0, 7) || two.Sum("123456789") != 0xfc891918 {
		t.Errorf("P2.1: a table that is made hangs on another one")
	}
}

func TestSumIsKnown(t *testing.T) {
	table := crc.Make()
	for s, want := range map[string]uint32{
		"123456789": 0xfc891918, "": 0, "\x00": 0xb1f7404b, "\xff\xff\xff\xff": 0xffffffff, "\x00\x00\x00\x00": 0x38fb2284,
	} {
		if got := table.Sum(s); got != want {
			t.Errorf("P2.1: Sum(%q) = %08x, want %08x", s, got, want)
		}
	}
	for _, s := range texts() {
		if got := table.Sum(s); got != sumOf(s) || got != librarySum(s) {
			t.Errorf("P2.1: Sum of %d bytes = %08x, want %08x", len(s), got, sumOf(s))
		}
	}
}

func TestSumOfEachByte(t *testing.T) {
	table := crc.Make()
	for b := range 256 {
		for _, s := range []string{string([]byte{byte(b)}), string([]byte{'x', byte(b), 'y'})} {
			if got := table.Sum(s); got != sumOf(s) {
				t.Errorf("P2.1: Sum(%x) = %08x, want %08x", s, got, sumOf(s))
			}
		}
	}
}

func TestSumOfParts(t *testing.T) {
	table := crc.Make()
	if table.Sum() != 0 || table.Sum(nil...) != 0 || table.Sum("") != 0 || table.Sum("", "", "") != 0 {
		t.Errorf("P2.1: the sum of nothing is not 0")
	}
	for _, s := range []string{"123456789", "\x00\x00\x00\x00\x00", "\xff\x00\xfe\x80\x7f\xc3\xbc"} {
		want := sumOf(s)
		for i := range len(s) + 1 {
			for j := i; j <= len(s); j++ {
				if got := table.Sum(s[:i], s[i:j], s[j:]); got != want {
					t.Errorf("P2.1: Sum of %x in parts at %d and %d = %08x, want %08x", s, i, j, got, want)
				}
				if got := table.Sum("", s[:i], "", s[i:j], "", "", s[j:], ""); got != want {
					t.Errorf("P2.1: Sum of %x with empty parts = %08x, want %08x", s, got, want)
				}
			}
		}
		if got := table.Sum(strings.Split(s, "")...); got != want {
			t.Errorf("P2.1: Sum of %x in letters = %08x, want %08x", s, got, want)
		}
	}
	if table.Sum("ab", "c") == table.Sum("c", "ab") {
		t.Errorf("P2.1: Sum of parts in another order is the same")
	}
}

// TestCallsChangeNothing looks for what a call keeps, or does to the table or to a list.
func TestCallsChangeNothing(t *testing.T) {
	table, fresh := crc.Make(), crc.Make()
	parts := []string{"12", "", "3456789"}
	for range 3 {
		if table.Sum(parts...) != 0xfc891918 || !table.Fits(table.Seal("ab")) || table.Fits("abcdef") {
			t.Errorf("P2.1: a call hangs on the ones ahead")
		}
	}
	if table != fresh || parts[0] != "12" || parts[1] != "" || parts[2] != "3456789" {
		t.Errorf("P2.1: a call changes what it is handed")
	}
}

func TestFitsOfShortTexts(t *testing.T) {
	table := crc.Make()
	for _, s := range []string{"", "\x00", "\x00\x00", "\x00\x00\x00", "a", "ab", "abc", "\xff\xff\xff"} {
		if table.Fits(s) {
			t.Errorf("P2.1: Fits(%x) of fewer than four bytes", s)
		}
	}
	if !table.Fits("\x00\x00\x00\x00") {
		t.Errorf("P2.1: the sum of nothing doesn't fit nothing")
	}
	for _, s := range []string{"\x00\x00\x00\x01", "\x01\x00\x00\x00", "\x00\x01\x00\x00", "\x00\x00\x80\x00", "abcd", "\xff\xff\xff\xff"} {
		if table.Fits(s) {
			t.Errorf("P2.1: Fits(%x)", s)
		}
	}
}

func TestFitsAsksForTheSumBehind(t *testing.T) {
	table := crc.Make()
	for _, s := range texts() {
		sum := sumOf(s)
		if !table.Fits(s + tail(sum)) {
			t.Errorf("P2.1: %d bytes and their sum don't fit", len(s))
		}
		for _, wrong := range []uint32{sum ^ 1, sum ^ 1<<31, sum ^ 1<<8, sum ^ 1<<16, ^sum, sum + 1, sum - 1} {
			if table.Fits(s + tail(wrong)) {
				t.Errorf("P2.1: %d bytes and %08x fit", len(s), wrong)
			}
		}
		for _, other := range []string{s, s + tail(bits.ReverseBytes32(sum)), s + tail(sum) + "\x00", tail(sum) + s, s + "\x00" + tail(sum)} {
			if got := table.Fits(other); got != fits(other) {
				t.Errorf("P2.1: Fits of %d bytes, made of %d and their sum, = %v", len(other), len(s), got)
			}
		}
	}
}

func TestSealIsTheTextAndItsSum(t *testing.T) {
	table := crc.Make()
	if got := table.Seal("123456789"); got != "123456789\xfc\x89\x19\x18" {
		t.Errorf("P2.1: Seal(123456789) = %x", got)
	}
	if got := table.Seal(""); got != "\x00\x00\x00\x00" {
		t.Errorf("P2.1: Seal of nothing = %x", got)
	}
	for _, s := range texts() {
		if got := table.Seal(s); got != s+tail(sumOf(s)) {
			t.Errorf("P2.1: Seal of %d bytes isn't the text and its sum", len(s))
		}
	}
}

func TestSealFits(t *testing.T) {
	table := crc.Make()
	for _, s := range texts() {
		one := table.Seal(s)
		if !table.Fits(one) || !table.Fits(table.Seal(one)) {
			t.Errorf("P2.2: Seal of %d bytes doesn't fit", len(s))
		}
	}
}

// turned is s with the bits of the mask turned, its lowest one at the at-th bit of s; false: they don't all lie in s.
func turned(s string, at int, mask uint32) (string, bool) {
	l := []byte(s)
	for ; mask != 0; mask, at = mask>>1, at+1 {
		if mask&1 == 0 {
			continue
		}
		if at >= 8*len(l) {
			return "", false
		}
		l[at/8] ^= 0x80 >> (at % 8)
	}
	return string(l), true
}

func checkTurned(t *testing.T, table *crc.Table, sealed string, mask uint32) {
	t.Helper()
	for at := range 8 * len(sealed) {
		if s, ok := turned(sealed, at, mask); ok && table.Fits(s) {
			t.Fatalf("P2.2: %x fits, which is %x with bits %b turned at %d", s, sealed, mask, at)
		}
	}
}

func TestTurnedBitsAreFoundAllShortOnes(t *testing.T) {
	table := crc.Make()
	for _, s := range []string{"", "a", "\x00\x00", "ab\xff", "\xff\xff\xff\xff\xff\xff"} {
		sealed := table.Seal(s)
		for mask := uint32(1); mask < 1<<9; mask += 2 {
			checkTurned(t, &table, sealed, mask)
		}
	}
}

// TestTurnedBitsAreFoundUpTo32 turns bits that lie far from one another, and the whole width, at each place, the seam among them.
func TestTurnedBitsAreFoundUpTo32(t *testing.T) {
	table := crc.Make()
	random := rand.New(rand.NewSource(1))
	for _, s := range []string{"", "a", "abc", "\x00\x00\x00\x00\x00", "123456789", strings.Repeat("\xa5z", 24)} {
		sealed := table.Seal(s)
		for width := range 32 {
			checkTurned(t, &table, sealed, 1|1<<width)
			checkTurned(t, &table, sealed, 1<<width|(1<<width-1))
		}
		for range 200 {
			checkTurned(t, &table, sealed, random.Uint32()|1)
		}
		// The bits of the polynomial itself, as far as 32 bits have them.
		checkTurned(t, &table, sealed, bits.Reverse32(0x04c11db7))
		checkTurned(t, &table, sealed, bits.Reverse32(0x82608edb))
	}
}

func TestTurnedBitsAreFoundInLongTexts(t *testing.T) {
	table := crc.Make()
	random := rand.New(rand.NewSource(2))
	sealed := table.Seal(strings.Repeat("0123456789abcde\x00", 125))
	for range 2000 {
		at, mask := random.Intn(8*len(sealed)), random.Uint32()|1
		if s, ok := turned(sealed, at, mask); ok && table.Fits(s) {
			t.Fatalf("P2.2: bits %b turned at %d aren't found", mask, at)
		}
	}
}

// TestWiderTurnsMayFit: what is 33 bits wide may be the polynomial itself, and nothing more than 32 is promised: here it is seen that the sum is this one.
func TestWiderTurnsMayFit(t *testing.T) {
	table := crc.Make()
	l := []byte(table.Seal("abcdef"))
	for bit := range 33 {
		if uint64(0x104c11db7)>>(32-bit)&1 == 1 {
			at := 13 + bit
			l[at/8] ^= 0x80 >> (at % 8)
		}
	}
	if !table.Fits(string(l)) {
		t.Errorf("P2.2: the polynomial's own bits are found: it is another sum")
	}
}

// TestEachCallAnswers is P1 of the document: no call panics, and each ends, at texts of any length and of any bytes.
func TestEachCallAnswers(t *testing.T) {
	table := crc.Make()
	for _, s := range texts() {
		for n := range min(len(s), 9) + 1 {
			ahead, behind := s[:n], s[len(s)-n:]
			if table.Sum(ahead, behind) != table.Sum(ahead+behind) || table.Fits(behind) != fits(behind) || len(table.Seal(ahead)) != n+4 {
				t.Errorf("P1: %x or %x", ahead, behind)
			}
		}
	}
}
