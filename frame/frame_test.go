package frame_test

import (
	"math"
	"math/rand"
	"strings"
	"testing"

	"polliwog/api"
	"polliwog/crc"
	"polliwog/frame"
)

const longest = 65535

// sumOf is the sum of layer 2, bit by bit, with no table.
func sumOf(s string) string {
	register := uint32(0xffffffff)
	for i := 0; i < len(s); i++ {
		register ^= uint32(s[i]) << 24
		for bit := 0; bit < 8; bit++ {
			out := register >> 31
			register = register<<1 ^ out*0x04c11db7
		}
	}
	register = ^register
	return string([]byte{byte(register >> 24), byte(register >> 16), byte(register >> 8), byte(register)})
}

// bytesOf is a frame's bytes as the document tells them, one by one.
func bytesOf(f frame.Frame) string {
	b := []byte(f.Data)
	for (len(b)+8)%48 != 0 {
		b = append(b, 0)
	}
	b = append(b, f.User, 0, byte(len(f.Data)/256), byte(len(f.Data)%256))
	return string(b) + sumOf(string(b))
}

// resealed is s with its last four bytes made the sum of those ahead.
func resealed(s string) string { return s[:len(s)-4] + sumOf(s[:len(s)-4]) }

// with is s with the byte at i made b.
func with(s string, i int, b byte) string {
	l := []byte(s)
	l[i] = b
	return string(l)
}

// some are n bytes, of all kinds, the last of them not 0.
func some(n int) string {
	l := make([]byte, n)
	for i := range l {
		l[i] = byte(i*7 + 200)
	}
	if n > 0 {
		l[n-1] |= 1
	}
	return string(l)
}

// lengths are of no data, of cells that are just full, or by one more or less, and of the most.
func lengths() []int {
	l := []int{255, 256, 257, 511, 512, 4095, 32767, 32768, longest - 48, longest - 47, longest - 8, longest - 7, longest - 1, longest}
	for n := range 200 {
		l = append(l, n)
	}
	return l
}

func TestNoData(t *testing.T) {
	table := crc.Make()
	s, err := frame.Frame{}.Bytes(&table)
	if err != api.OK || len(s) != 48 || s[:44] != strings.Repeat("\x00", 44) || s != resealed(s) {
		t.Errorf("P5.2: Bytes of no data = %x, %d", s, err)
	}
	s, err = frame.Frame{User: 0xa5}.Bytes(&table)
	if err != api.OK || len(s) != 48 || s[:40] != strings.Repeat("\x00", 40) || s[40:44] != "\xa5\x00\x00\x00" || s != resealed(s) {
		t.Errorf("P5.2: Bytes of no data and User a5 = %x, %d", s, err)
	}
}

func TestBytesAreThoseTold(t *testing.T) {
	table := crc.Make()
	for _, n := range lengths() {
		for _, user := range []byte{0, 1, 127, 128, 255} {
			f := frame.Frame{User: user, Data: some(n)}
			if s, err := f.Bytes(&table); s != bytesOf(f) || err != api.OK {
				t.Errorf("P5.2: Bytes of %d bytes, User %d: %d bytes, %d", n, user, len(s), err)
			}
		}
	}
	if s, err := (frame.Frame{User: 7, Data: "ab"}).Bytes(&table); s[:44] != "ab"+strings.Repeat("\x00", 38)+"\x07\x00\x00\x02" || err != api.OK {
		t.Errorf("P5.2: Bytes of ab = %x, %d", s, err)
	}
	// 40 bytes fill one cell just so.
	if s, err := (frame.Frame{Data: some(40)}).Bytes(&table); s[:44] != some(40)+"\x00\x00\x00\x28" || len(s) != 48 || err != api.OK {
		t.Errorf("P5.2: Bytes of a full cell = %x, %d", s, err)
	}
}

func TestThereAndBack(t *testing.T) {
	table := crc.Make()
	for _, n := range lengths() {
		for _, user := range []byte{0, 1, 255} {
			for _, data := range []string{some(n), strings.Repeat("\x00", n), strings.Repeat("\xff", n)} {
				want := frame.Frame{User: user, Data: data}
				s, _ := want.Bytes(&table)
				if got, err := frame.Parse(&table, s); got != want || err != api.OK {
					t.Fatalf("P5.2: Parse of the Bytes of %d bytes: %d bytes, %d", n, len(got.Data), err)
				}
			}
		}
	}
}

func TestMoreThanMayBeIsBig(t *testing.T) {
	table := crc.Make()
	for _, n := range []int{longest + 1, longest + 2, longest + 48, 65536 + 40, 1 << 17, 1 << 20} {
		if s, err := (frame.Frame{User: 1, Data: some(n)}).Bytes(&table); s != "" || err != api.ErrBig {
			t.Errorf("P5.1: Bytes of %d bytes: %d bytes, %d", n, len(s), err)
		}
	}
	if s, err := (frame.Frame{Data: some(longest)}).Bytes(&table); len(s) != 65568 || s[65560:65564] != "\x00\x00\xff\xff" || err != api.OK {
		t.Errorf("P5.1: Bytes of %d bytes: %d bytes, %d", longest, len(s), err)
	}
}

// refused looks whether s is refused with that error, and nothing beside.
func refused(t *testing.T, table *crc.Table, s string, want api.Errno, what string) {
	t.Helper()
	if f, err := frame.Parse(table, s); f != (frame.Frame{}) || err != want {
		t.Errorf("P5.2, P7: Parse of %s (%d bytes): User %d, %d bytes, error %d, want %d", what, len(s), f.User, len(f.Data), err, want)
	}
}

func TestLengthThatIsNoMultiple(t *testing.T) {
	table := crc.Make()
	refused(t, &table, "", api.ErrLength, "an empty text")
	whole := bytesOf(frame.Frame{User: 3, Data: some(100)})
	for n := range len(whole) {
		if n%48 != 0 {
			// Wrong sum or not, the length is told first.
			refused(t, &table, whole[:n], api.ErrLength, "a part")
			refused(t, &table, whole[n:], api.ErrLength, "a rest")
			if n > 4 {
				refused(t, &table, resealed(whole[:n]), api.ErrLength, "a part with its sum")
			}
		}
	}
	refused(t, &table, whole+"\x00", api.ErrLength, "a byte more")
	refused(t, &table, strings.Repeat("\x00", 4), api.ErrLength, "a sum alone")
	refused(t, &table, strings.Repeat("\x00", 8), api.ErrLength, "a trailer alone")
	refused(t, &table, bytesOf(frame.Frame{})[40:], api.ErrLength, "a trailer alone")
}

func TestSumThatIsSpoilt(t *testing.T) {
	table := crc.Make()
	for _, n := range []int{0, 1, 40, 41, 100} {
		s := bytesOf(frame.Frame{User: 9, Data: some(n)})
		for i := range len(s) {
			for _, turned := range []byte{1, 0x80, 0xff, 0x24} {
				refused(t, &table, with(s, i, s[i]^turned), api.ErrSum, "spoilt bytes")
			}
		}
		for cut := 48; cut < len(s); cut += 48 {
			refused(t, &table, s[:cut], api.ErrSum, "the first cells")
		}
		refused(t, &table, s+strings.Repeat("\x00", 48), api.ErrSum, "a cell more")
	}
	for cells := 1; cells < 4; cells++ {
		refused(t, &table, strings.Repeat("\x00", 48*cells), api.ErrSum, "bytes 0")
		refused(t, &table, strings.Repeat("\xff", 48*cells), api.ErrSum, "bytes 255")
	}
}

// TestToldLength tells each number of bytes there is, in frames of so many cells.
func TestToldLength(t *testing.T) {
	table := crc.Make()
	for _, cells := range []int{1, 2, 3, 7} {
		blank := strings.Repeat("\x00", 48*cells)
		for n := 0; n <= longest; n++ {
			if n > 600 && n%97 != 0 && n < longest-60 {
				continue
			}
			s := resealed(with(with(blank, 48*cells-6, byte(n>>8)), 48*cells-5, byte(n)))
			if n > 48*cells-8 || n <= 48*(cells-1)-8 {
				refused(t, &table, s, api.ErrLength, "a told length of other cells")
				continue
			}
			if f, err := frame.Parse(&table, s); f != (frame.Frame{Data: strings.Repeat("\x00", n)}) || err != api.OK {
				t.Errorf("P5.2: Parse of %d bytes told in %d cells: %d, %d", n, cells, len(f.Data), err)
			}
		}
	}
}

// TestBytesThatMustBeNought sets each of those ahead of the told length, and behind data.
func TestBytesThatMustBeNought(t *testing.T) {
	table := crc.Make()
	for _, n := range []int{0, 1, 2, 38, 39, 40, 41, 48, 60, 87, 88, 89, 100} {
		s := bytesOf(frame.Frame{User: 0, Data: some(n)})
		seam := len(s) - 8
		for _, b := range []byte{1, 0x80, 0xff, ' ', '0'} {
			for i := n; i < seam; i++ {
				refused(t, &table, resealed(with(s, i, b)), api.ErrForm, "a byte behind data that isn't 0")
			}
			refused(t, &table, resealed(with(s, seam+1, b)), api.ErrForm, "the byte ahead of the length that isn't 0")
			if got, err := frame.Parse(&table, resealed(with(s, seam, b))); err != api.OK || got.User != b || got.Data != some(n) {
				t.Errorf("P5.2: Parse of User %d: %d, %d", b, got.User, err)
			}
		}
	}
}

// TestWhichErrorComesFirst spoils in more than one way at once.
func TestWhichErrorComesFirst(t *testing.T) {
	table := crc.Make()
	s := bytesOf(frame.Frame{User: 1, Data: some(50)})
	seam := len(s) - 8
	form := with(s, seam+1, 1)
	length := with(s, seam+3, 30)
	refused(t, &table, form, api.ErrSum, "a spoilt sum ahead of a byte that isn't 0")
	refused(t, &table, length, api.ErrSum, "a spoilt sum ahead of a told length of other cells")
	refused(t, &table, resealed(with(form, seam+3, 30)), api.ErrLength, "a told length of other cells ahead of a byte that isn't 0")
	refused(t, &table, resealed(with(form, seam+2, 1)), api.ErrLength, "a told length of more cells ahead of a byte that isn't 0")
	refused(t, &table, form[:len(form)-1], api.ErrLength, "no multiple of 48 ahead of a spoilt sum")
	refused(t, &table, resealed(form)+"x", api.ErrLength, "no multiple of 48 ahead of a byte that isn't 0")
}

// TestAtMostOneFrame parses any bytes with a right sum: what is answered has just those bytes.
func TestAtMostOneFrame(t *testing.T) {
	table := crc.Make()
	random := rand.New(rand.NewSource(5))
	came := 0
	for range 30000 {
		cells := 1 + random.Intn(3)
		b := make([]byte, 48*cells)
		for range random.Intn(4) {
			b[random.Intn(len(b))] = byte(random.Intn(256))
		}
		b[len(b)-5] = byte(random.Intn(256))
		s := resealed(string(b))
		f, err := frame.Parse(&table, s)
		if err == api.OK {
			came++
			if bytesOf(f) != s {
				t.Fatalf("P5.2: Parse of %x = %v", s, f)
			}
		} else if f != (frame.Frame{}) || err != api.ErrLength && err != api.ErrForm {
			t.Fatalf("P5.1: Parse of %x = %v, %d", s, f, err)
		}
	}
	if came == 0 {
		t.Errorf("P5.2: no frame came at all")
	}
}

func TestCells(t *testing.T) {
	for n, want := range map[int]int{
		math.MinInt: 1, math.MinInt32: 1, -49: 1, -48: 1, -9: 1, -8: 1, -1: 1, 0: 1, 1: 1, 39: 1, 40: 1, 41: 2, 47: 2, 48: 2, 87: 2, 88: 2,
		89: 3, 96: 3, 136: 3, 137: 4, longest: 1366, longest + 1: 1366, math.MaxInt32: 44739243, math.MaxInt: math.MaxInt/48 + 1,
		math.MaxInt - 1: math.MaxInt/48 + 1, math.MaxInt - 7: math.MaxInt/48 + 1, math.MaxInt - 47: math.MaxInt / 48,
	} {
		if got := frame.Cells(n); got != want {
			t.Errorf("P5.1: Cells(%d) = %d, want %d", n, got, want)
		}
	}
	table := crc.Make()
	for _, n := range lengths() {
		if s, _ := (frame.Frame{Data: some(n)}).Bytes(&table); len(s) != 48*frame.Cells(n) {
			t.Errorf("P5.1: Cells(%d) = %d, but %d bytes", n, frame.Cells(n), len(s))
		}
	}
}

// flip turns bits one by one: the bit i of the mask, its highest first, is that at at + i of s.
func flip(s string, at int, mask uint32) string {
	b := []byte(s)
	for i := 0; i < 32; i++ {
		if mask&(1<<(31-i)) == 0 || at < -64 || at > 8*len(s) {
			continue
		}
		if bit := at + i; bit >= 0 && bit < 8*len(s) {
			b[bit/8] ^= 1 << (7 - bit%8)
		}
	}
	return string(b)
}

func TestFlip(t *testing.T) {
	for _, c := range []struct {
		s    string
		at   int
		mask uint32
		want string
	}{
		{"\x00\x00", 0, 1 << 31, "\x80\x00"}, {"\x00\x00", 1, 1 << 31, "\x40\x00"}, {"\x00\x00", 7, 1 << 31, "\x01\x00"},
		{"\x00\x00", 8, 1 << 31, "\x00\x80"}, {"\x00\x00", 15, 1 << 31, "\x00\x01"}, {"\x00\x00", 16, 1 << 31, "\x00\x00"},
		{"\x00\x00", -1, 1 << 31, "\x00\x00"}, {"\x00\x00", -1, 1 << 30, "\x80\x00"}, {"\x00\x00", -31, 1, "\x80\x00"},
		{"\x00\x00", -32, math.MaxUint32, "\x00\x00"}, {"\x00\x00", -31, math.MaxUint32, "\x80\x00"},
		{"\x00\x00", -16, math.MaxUint32, "\xff\xff"}, {"\x00\x00", -8, math.MaxUint32, "\xff\xff"}, {"\x00\x00", 4, math.MaxUint32, "\x0f\xff"},
		{"\xff\xff", -24, 0xffffff0f, "\xf0\xff"}, {"ab", 0, 0, "ab"}, {"", 0, math.MaxUint32, ""}, {"", -16, math.MaxUint32, ""},
		{"\x00\x00\x00\x00\x00", 4, 0xdeadbeef, "\x0d\xea\xdb\xee\xf0"},
	} {
		if got := frame.Flip(c.s, c.at, c.mask); got != c.want {
			t.Errorf("P5.3: Flip(%x, %d, %08x) = %x, want %x", c.s, c.at, c.mask, got, c.want)
		}
	}
}

// TestFlipAtEachPlace goes from well ahead of texts to well behind them.
func TestFlipAtEachPlace(t *testing.T) {
	masks := []uint32{0, 1, 2, 1 << 15, 1 << 16, 1 << 30, 1 << 31, 1<<31 + 1, math.MaxUint32, 0xdeadbeef, 0x0000ffff, 0xffff0000, 0x55555555}
	for n := range 9 {
		s := some(n)
		for at := -80; at < 8*n+80; at++ {
			for _, mask := range masks {
				got := frame.Flip(s, at, mask)
				if got != flip(s, at, mask) {
					t.Fatalf("P5.3: Flip(%x, %d, %08x) = %x, want %x", s, at, mask, got, flip(s, at, mask))
				}
				if frame.Flip(got, at, mask) != s {
					t.Fatalf("P5.3: Flip(%x, %d, %08x) twice isn't the same", s, at, mask)
				}
			}
		}
		for _, at := range []int{math.MinInt, math.MinInt + 31, -1 << 40, -1 << 32, math.MinInt32, 1 << 31, 1 << 32, 1 << 40, math.MaxInt - 31, math.MaxInt - 1, math.MaxInt} {
			if got := frame.Flip(s, at, math.MaxUint32); got != s {
				t.Errorf("P5.3: Flip(%x, %d, all) = %x", s, at, got)
			}
		}
	}
	if s := some(70000); frame.Flip(s, 8*70000-1, math.MaxUint32) != flip(s, 8*70000-1, math.MaxUint32) || frame.Flip(s, 8*69998+3, 77) != flip(s, 8*69998+3, 77) {
		t.Errorf("P5.3: Flip of a long text")
	}
}

// TestFlippedIsTheSameOrSpoilt flips frames at each place, ahead of them, behind them and over both ends.
func TestFlippedIsTheSameOrSpoilt(t *testing.T) {
	table := crc.Make()
	random := rand.New(rand.NewSource(7))
	for _, n := range []int{0, 1, 40, 41, 90} {
		want := frame.Frame{User: 2, Data: some(n)}
		s, _ := want.Bytes(&table)
		for at := -33; at < 8*len(s)+3; at++ {
			for _, mask := range []uint32{1 << 31, 1, math.MaxUint32, 0x04c11db7, 0x80000001, random.Uint32(), random.Uint32()} {
				spoilt := frame.Flip(s, at, mask)
				got, err := frame.Parse(&table, spoilt)
				if spoilt == s && (err != api.OK || got != want) {
					t.Fatalf("P5.3: the same bytes answer %d", err)
				}
				if spoilt != s && (err != api.ErrSum || got != (frame.Frame{})) {
					t.Fatalf("P5.3: Flip of %d bytes at %d by %08x answers %d", len(s), at, mask, err)
				}
			}
		}
	}
}

// TestCallsChangeNothing is rule 5, and that one call doesn't hang on those ahead.
func TestCallsChangeNothing(t *testing.T) {
	table, fresh := crc.Make(), crc.Make()
	f := frame.Frame{User: 4, Data: some(77)}
	for range 3 {
		s, err := f.Bytes(&table)
		if s != bytesOf(f) || err != api.OK || f.User != 4 || f.Data != some(77) {
			t.Errorf("P5.1: a call of Bytes hangs on the ones ahead")
		}
		if got, err := frame.Parse(&table, s); got != f || err != api.OK {
			t.Errorf("P5.1: a call of Parse hangs on the ones ahead")
		}
		if frame.Flip(s, 3, 99) == s || s != bytesOf(f) {
			t.Errorf("P5.1: Flip changes what it is handed")
		}
		refused(t, &table, s[1:], api.ErrLength, "a part")
		refused(t, &table, s[48:]+s[:48], api.ErrSum, "cells in another order")
	}
	if table != fresh {
		t.Errorf("P5.1: a call changes the table")
	}
}

// TestEachCallAnswers is of any bytes, any places and any numbers.
func TestEachCallAnswers(t *testing.T) {
	table := crc.Make()
	random := rand.New(rand.NewSource(9))
	numbers := []int{math.MinInt, math.MinInt32, -1, 0, 1, 47, 48, longest, math.MaxInt32, math.MaxInt}
	for n := range 300 {
		b := make([]byte, n)
		random.Read(b)
		s := string(b)
		if f, err := frame.Parse(&table, s); err == api.OK || f != (frame.Frame{}) {
			t.Errorf("P1, P5.1: Parse of %x = %v, %d", s, f, err)
		}
		for _, at := range numbers {
			if got := frame.Flip(s, at, random.Uint32()); len(got) != n {
				t.Errorf("P1, P5.1: Flip of %d bytes answers %d", n, len(got))
			}
		}
		if got, err := (frame.Frame{User: byte(n), Data: s}).Bytes(&table); err != api.OK || len(got)%48 != 0 {
			t.Errorf("P1, P5.1: Bytes of %x = %x, %d", s, got, err)
		}
	}
	for _, n := range numbers {
		if frame.Cells(n) < 1 {
			t.Errorf("P1, P5.1: Cells(%d) = %d", n, frame.Cells(n))
		}
	}
}
