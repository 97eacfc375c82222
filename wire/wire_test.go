package wire_test

import (
	"math"
	"math/rand"
	"slices"
	"strings"
	"testing"

	"polliwog/api"
	"polliwog/crc"
	"polliwog/frame"
	"polliwog/pdu"
	"polliwog/seq"
	"polliwog/wire"
)

const (
	greatest = 1<<24 - 1
	most     = 128 // numbers of a List
)

// sumOf is the sum of layer 2, bit by bit, with no table.
func sumOf(s string) string {
	register := uint32(0xffffffff)
	for i := 0; i < len(s); i++ {
		register ^= uint32(s[i]) << 24
		for bit := 0; bit < 8; bit++ {
			out := register >> 31
			register = register<<1 ^ out*0x04c11db7
		}
	}
	register = ^register
	return string([]byte{byte(register >> 24), byte(register >> 16), byte(register >> 8), byte(register)})
}

// framed is the bytes of a frame of that data, as layer 5's chapter tells them.
func framed(user byte, data string) string {
	b := []byte(data)
	for (len(b)+8)%48 != 0 {
		b = append(b, 0)
	}
	b = append(b, user, 0, byte(len(data)/256), byte(len(data)%256))
	return string(b) + sumOf(string(b))
}

// resealed is s with its last four bytes made the sum of those ahead.
func resealed(s string) string { return s[:len(s)-4] + sumOf(s[:len(s)-4]) }

// with is s with the byte at i made b.
func with(s string, i int, b byte) string {
	l := []byte(s)
	l[i] = b
	return string(l)
}

// same tells whether two units are alike, whatever their Lists of none are.
func same(p, q pdu.PDU) bool {
	return p.Kind == q.Kind && p.SQ == q.SQ && p.N == q.N && p.PS == q.PS && p.MR == q.MR && slices.Equal(p.List, q.List) &&
		p.Self == q.Self && p.Data == q.Data
}

// some are n bytes of all kinds; the last one is 0, to look what is taken for filling.
func some(n int) string {
	b := make([]byte, n)
	for i := range b {
		b[i] = byte(i*11 + 3)
	}
	if n > 0 {
		b[n-1] = 0
	}
	return string(b)
}

func list(n int, first seq.Num) []seq.Num {
	l := make([]seq.Num, n)
	for i := range l {
		l[i] = (first + seq.Num(i)*70001) & greatest
	}
	return l
}

// dataOf is how much data a unit of a kind may have.
func dataOf(kind int) int {
	switch kind {
	case pdu.BGN, pdu.END, pdu.RS, pdu.BGREJ:
		return 64
	case pdu.SD, pdu.UD, pdu.MD:
		return 200
	}
	return 0
}

// fullest are units of each kind that have all that their kind may have, but no data.
func fullest() []pdu.PDU {
	return []pdu.PDU{
		{Kind: pdu.BGN, SQ: 255, N: greatest}, {Kind: pdu.BGAK, SQ: 255, N: greatest}, {Kind: pdu.END, SQ: 255, Self: true},
		{Kind: pdu.ENDAK, SQ: 255}, {Kind: pdu.RS, SQ: 255, N: greatest}, {Kind: pdu.RSAK, SQ: 255, N: greatest}, {Kind: pdu.BGREJ, SQ: 255},
		{Kind: pdu.SD, N: greatest}, {Kind: pdu.ER, SQ: 255, N: greatest}, {Kind: pdu.POLL, PS: greatest, N: greatest},
		{Kind: pdu.STAT, PS: greatest, MR: greatest, N: greatest, List: list(most, greatest)},
		{Kind: pdu.USTAT, MR: greatest, N: greatest, List: []seq.Num{greatest, greatest}},
		{Kind: pdu.UD}, {Kind: pdu.MD}, {Kind: pdu.ERAK, SQ: 255, N: greatest},
	}
}

// least is the unit of a kind with the least of all that it has.
func least(kind int) pdu.PDU {
	p := pdu.PDU{Kind: kind}
	if kind == pdu.USTAT {
		p.List = make([]seq.Num, 2)
	}
	return p
}

// units are many that may be, of each kind, with lists and data of each length.
func units() []pdu.PDU {
	var l []pdu.PDU
	for i, p := range fullest() {
		l = append(l, p)
		for n := range dataOf(p.Kind) + 1 {
			p.Data = some(n)
			l = append(l, p)
			p.Data = strings.Repeat("\xff", n)
			l = append(l, p)
			p.Data = strings.Repeat("\x00", n)
			l = append(l, p)
			q := least(i + 1)
			q.Data = some(n)
			l = append(l, q)
		}
	}
	for n := 0; n <= most; n += 2 {
		l = append(l, pdu.PDU{Kind: pdu.STAT, N: 3, PS: 9, MR: 40, List: list(n, 16777000)})
	}
	return l
}

// unfit is a unit that may not be, with its Check's error.
type unfit struct {
	p    pdu.PDU
	want api.Errno
}

// unfits are units that may not be, of each error.
func unfits() []unfit {
	l := []unfit{
		{pdu.PDU{}, api.ErrKind}, {pdu.PDU{Kind: -1}, api.ErrKind}, {pdu.PDU{Kind: 16}, api.ErrKind}, {pdu.PDU{Kind: 17}, api.ErrKind},
		{pdu.PDU{Kind: math.MinInt}, api.ErrKind}, {pdu.PDU{Kind: math.MaxInt}, api.ErrKind}, {pdu.PDU{Kind: 1<<32 + 8}, api.ErrKind},
		{pdu.PDU{Kind: 16, Data: some(201), List: list(129, 0), SQ: -1}, api.ErrKind},
		{pdu.PDU{Kind: pdu.SD, Data: some(201)}, api.ErrBig}, {pdu.PDU{Kind: pdu.SD, Data: some(201), SQ: -1}, api.ErrBig},
		{pdu.PDU{Kind: pdu.STAT, List: list(129, 0)}, api.ErrBig}, {pdu.PDU{Kind: pdu.STAT, List: list(130, 0)}, api.ErrBig},
		{pdu.PDU{Kind: pdu.STAT, List: list(1, 0)}, api.ErrArg}, {pdu.PDU{Kind: pdu.STAT, List: list(127, 0)}, api.ErrArg},
		{pdu.PDU{Kind: pdu.USTAT}, api.ErrArg}, {pdu.PDU{Kind: pdu.USTAT, List: list(4, 0)}, api.ErrArg},
		{pdu.PDU{Kind: pdu.BGN, SQ: 256}, api.ErrArg}, {pdu.PDU{Kind: pdu.BGN, SQ: -1}, api.ErrArg}, {pdu.PDU{Kind: pdu.SD, SQ: 1}, api.ErrArg},
		{pdu.PDU{Kind: pdu.SD, N: 1 << 24}, api.ErrArg}, {pdu.PDU{Kind: pdu.UD, N: 1}, api.ErrArg}, {pdu.PDU{Kind: pdu.SD, Self: true}, api.ErrArg},
		{pdu.PDU{Kind: pdu.POLL, PS: math.MaxUint32}, api.ErrArg}, {pdu.PDU{Kind: pdu.POLL, MR: 1}, api.ErrArg},
		{pdu.PDU{Kind: pdu.STAT, MR: 1 << 24}, api.ErrArg}, {pdu.PDU{Kind: pdu.STAT, List: []seq.Num{1, 1 << 24}}, api.ErrArg},
	}
	for kind := pdu.BGN; kind <= pdu.ERAK; kind++ {
		p := least(kind)
		p.Data = some(201)
		want := api.ErrBig
		if dataOf(kind) == 0 {
			want = api.ErrArg
		}
		l = append(l, unfit{p, want})
		p.Data, p.List = "", list(129, 4)
		l = append(l, unfit{p, api.ErrBig})
		p = least(kind)
		p.Self, p.N = kind != pdu.END, 1<<24
		l = append(l, unfit{p, api.ErrArg})
	}
	return l
}

// refused looks whether Open refuses s with that error, and answers nothing beside; sound is what Sound is to tell.
func refused(t *testing.T, s string, want api.Errno, sound bool, why string) {
	t.Helper()
	w := wire.New()
	if p, err := w.Open(s); !same(p, pdu.PDU{}) || p.List != nil || err != want {
		t.Errorf("P7.1, P7.2, P7: Open of %s (%d bytes) = %v, %d, want %d", why, len(s), p, err, want)
	}
	if got := w.Sound(s); got != sound {
		t.Errorf("P7.1: Sound of %s (%d bytes) = %v", why, len(s), got)
	}
}

func TestPackIsKnown(t *testing.T) {
	w := wire.New()
	for _, c := range []struct {
		p    pdu.PDU
		want string // without its sum
	}{
		{pdu.PDU{Kind: pdu.SD, N: 5, Data: "ab"}, "\x61\x62\x00\x00\x88\x00\x00\x05" + strings.Repeat("\x00", 32) + "\x00\x00\x00\x08"},
		{pdu.PDU{Kind: pdu.UD}, "\x0d\x00\x00\x00" + strings.Repeat("\x00", 36) + "\x00\x00\x00\x04"},
		{pdu.PDU{Kind: pdu.BGN, SQ: 1, N: 4}, "\x00\x00\x00\x01\x01\x00\x00\x04" + strings.Repeat("\x00", 32) + "\x00\x00\x00\x08"},
		{pdu.PDU{Kind: pdu.POLL, PS: 2, N: 7}, "\x00\x00\x00\x02\x0a\x00\x00\x07" + strings.Repeat("\x00", 32) + "\x00\x00\x00\x08"},
	} {
		if s, err := w.Pack(c.p); s != c.want+sumOf(c.want) || err != api.OK {
			t.Errorf("P7.2: Pack of %s = %x, %d", c.p.Name(), s, err)
		}
	}
}

func TestThereAndBack(t *testing.T) {
	w := wire.New()
	for _, p := range units() {
		s, err := w.Pack(p)
		if s != framed(0, p.Bytes()) || err != api.OK {
			t.Fatalf("P7.2: Pack of %v = %x, %d", p, s, err)
		}
		if got, err := w.Open(s); !same(got, p) || err != api.OK {
			t.Fatalf("P7.2: Open of the packed %v = %v, %d", p, got, err)
		}
		if !w.Sound(s) {
			t.Fatalf("P7.1: the packed %v isn't Sound", p)
		}
		if n := wire.Size(p); n != len(s) {
			t.Fatalf("P7.1: Size of %v = %d, want %d", p, n, len(s))
		}
	}
}

// TestUnlikeUnitsHaveUnlikeBytes is that of any bytes there is at most one unit, asked the other way round.
func TestUnlikeUnitsHaveUnlikeBytes(t *testing.T) {
	w := wire.New()
	seen := map[string]pdu.PDU{}
	for _, p := range units() {
		s, _ := w.Pack(p)
		if q, ok := seen[s]; ok && !same(p, q) {
			t.Errorf("P7.2: %v and %v have the same bytes", p, q)
		}
		seen[s] = p
	}
}

// TestOneFrame is that each unit without data is one cell, but a long STAT.
func TestOneFrame(t *testing.T) {
	for kind := pdu.BGN; kind <= pdu.ERAK; kind++ {
		if n := wire.Size(least(kind)); n != 48 {
			t.Errorf("P7.1: Size of the least unit of kind %d = %d", kind, n)
		}
	}
	for _, p := range fullest() {
		want := 48
		if p.Kind == pdu.STAT {
			want = 576
		}
		if n := wire.Size(p); n != want {
			t.Errorf("P7.1: Size of %s = %d, want %d", p.Name(), n, want)
		}
	}
	for n, want := range map[int]int{0: 48, 2: 48, 6: 48, 8: 96, 18: 96, 20: 144, 126: 528, 128: 576} {
		if got := wire.Size(pdu.PDU{Kind: pdu.STAT, List: list(n, 5)}); got != want {
			t.Errorf("P7.1: Size of a STAT with a list of %d = %d, want %d", n, got, want)
		}
	}
	for n, want := range map[int]int{0: 48, 1: 48, 36: 48, 37: 96, 84: 96, 85: 144, 200: 240} {
		if got := wire.Size(pdu.PDU{Kind: pdu.SD, Data: some(n)}); got != want {
			t.Errorf("P7.1: Size of an SD of %d bytes = %d, want %d", n, got, want)
		}
	}
}

func TestUnitsThatMayNotBe(t *testing.T) {
	w := wire.New()
	for _, c := range unfits() {
		if err := c.p.Check(); err != c.want {
			t.Fatalf("P6.1: Check of %v = %d, want %d", c.p, err, c.want)
		}
		if s, err := w.Pack(c.p); s != "" || err != c.want {
			t.Errorf("P7.1, P7: Pack of %v = %d bytes, %d, want %d", c.p, len(s), err, c.want)
		}
		if n := wire.Size(c.p); n != 0 {
			t.Errorf("P7.1: Size of %v = %d", c.p, n)
		}
	}
}

func TestLengthThatIsNoMultiple(t *testing.T) {
	refused(t, "", api.ErrLength, false, "an empty text")
	whole := framed(0, pdu.PDU{Kind: pdu.SD, N: 7, Data: some(90)}.Bytes())
	for n := range len(whole) {
		if n%48 != 0 {
			refused(t, whole[:n], api.ErrLength, false, "a part")
			refused(t, whole[n:], api.ErrLength, false, "a rest")
			if n > 4 {
				// Its sum fits, but its length doesn't.
				refused(t, resealed(whole[:n]), api.ErrLength, false, "a part with its sum")
			}
		}
	}
	refused(t, whole+"\x00", api.ErrLength, false, "a byte more")
	refused(t, sumOf(""), api.ErrLength, false, "a sum alone")
	refused(t, framed(0, "")[40:], api.ErrLength, false, "a trailer alone")
}

func TestSumThatIsSpoilt(t *testing.T) {
	for _, p := range []pdu.PDU{{Kind: pdu.UD}, {Kind: pdu.SD, N: 9, Data: some(100)}, {Kind: pdu.STAT, List: list(20, 8)}} {
		s := framed(0, p.Bytes())
		for i := range len(s) {
			for _, turned := range []byte{1, 0x80, 0xff, 0x24} {
				refused(t, with(s, i, s[i]^turned), api.ErrSum, false, "spoilt bytes")
			}
		}
		for cut := 48; cut < len(s); cut += 48 {
			refused(t, s[:cut], api.ErrSum, false, "the first cells")
		}
		refused(t, s+strings.Repeat("\x00", 48), api.ErrSum, false, "a cell more")
	}
	for cells := 1; cells < 4; cells++ {
		refused(t, strings.Repeat("\x00", 48*cells), api.ErrSum, false, "bytes 0")
		refused(t, strings.Repeat("\xff", 48*cells), api.ErrSum, false, "bytes 255")
	}
}

// TestUserOtherThanNought asks each User there is.
func TestUserOtherThanNought(t *testing.T) {
	for user := 1; user < 256; user++ {
		for _, p := range []pdu.PDU{{Kind: pdu.UD}, {Kind: pdu.SD, N: 9, Data: some(100)}} {
			refused(t, framed(byte(user), p.Bytes()), api.ErrForm, true, "another User")
		}
	}
}

func TestToldLength(t *testing.T) {
	for _, p := range []pdu.PDU{{Kind: pdu.UD}, {Kind: pdu.SD, N: 9, Data: some(100)}, {Kind: pdu.STAT, List: list(20, 8)}} {
		s := framed(0, p.Bytes())
		for n := range 65536 {
			if n > len(s)-8 || n <= len(s)-48-8 {
				if n > 600 && n%997 != 0 && n < 65500 {
					continue
				}
				told := with(with(s, len(s)-6, byte(n>>8)), len(s)-5, byte(n))
				refused(t, resealed(told), api.ErrLength, true, "a told length of other cells")
			}
		}
	}
}

// TestBytesThatMustBeNought sets those behind data, and the one ahead of the told length.
func TestBytesThatMustBeNought(t *testing.T) {
	for _, n := range []int{0, 2, 30, 36, 37, 50} {
		data := pdu.PDU{Kind: pdu.MD, Data: some(n)}.Bytes()
		s := framed(0, data)
		for i := len(data); i < len(s)-8; i++ {
			refused(t, resealed(with(s, i, 1)), api.ErrForm, true, "a byte behind data that isn't 0")
		}
		refused(t, resealed(with(s, len(s)-7, 0x80)), api.ErrForm, true, "the byte ahead of the length that isn't 0")
	}
}

func TestBytesThatAreNoUnit(t *testing.T) {
	for data, want := range map[string]api.Errno{
		"": api.ErrLength, "a": api.ErrLength, "abc": api.ErrLength, "\x0d\x00\x00\x00a": api.ErrLength,
		"\x00\x00\x00\x00": api.ErrKind, "\xf0\x00\x00\x00": api.ErrKind, "\x01\x00\x00\x05": api.ErrLength, "\x48\x00\x00\x05": api.ErrLength,
		"\x0b\x00\x00\x00": api.ErrLength, "\x0c\x00\x00\x00": api.ErrLength, "\x00\x00\x00\x00\x0b\x00\x00\x00": api.ErrLength,
		"\x18\x00\x00\x05": api.ErrForm, "\x28\x00\x00\x05": api.ErrForm, "\x0d\x00\x00\x05": api.ErrForm,
		"\x00\x00\x01\x00\x04\x00\x00\x00": api.ErrForm, "a\x00\x00\x01\xc8\x00\x00\x05": api.ErrForm,
		some(204) + "\x08\x00\x00\x00": api.ErrBig, strings.Repeat("\x00", 4*131) + "\x0b\x00\x00\x00": api.ErrBig,
		strings.Repeat("\x00", 12) + "\x0b\x00\x00\x00": api.ErrForm,
	} {
		refused(t, framed(0, data), want, true, "bytes that are no unit")
		refused(t, framed(1, data), api.ErrForm, true, "bytes that are no unit, of another User")
	}
	refused(t, framed(0, strings.Repeat("\x00", 65532)+"\x0b"), api.ErrLength, true, "a frame of very many bytes, no multiple of four")
	refused(t, framed(0, strings.Repeat("\x00", 65528)+"\x0b\x00\x00\x00"), api.ErrBig, true, "a frame of very many bytes")
}

// TestWhichErrorComesFirst spoils in more than one way at once.
func TestWhichErrorComesFirst(t *testing.T) {
	none := framed(7, "\x00\x00\x00\x00") // another User, and no kind
	refused(t, none, api.ErrForm, true, "another User ahead of no kind")
	refused(t, with(none, 1, 1), api.ErrSum, false, "a spoilt sum ahead of another User")
	refused(t, none+"x", api.ErrLength, false, "no multiple of 48 ahead of another User")
	refused(t, resealed(none+"x"), api.ErrLength, false, "no multiple of 48 with a sum, ahead of another User")
	refused(t, resealed(with(none, 43, 41)), api.ErrLength, true, "a told length of other cells ahead of another User")
	refused(t, resealed(with(none, 42, 1)), api.ErrLength, true, "a told length of more cells ahead of another User")
	refused(t, resealed(with(framed(0, "\x00\x00\x00\x00"), 41, 1)), api.ErrForm, true, "the byte that isn't 0 ahead of no kind")
	refused(t, resealed(with(framed(0, "abc"), 20, 1)), api.ErrForm, true, "a byte behind data that isn't 0 ahead of no multiple of four")
	refused(t, framed(7, ""), api.ErrForm, true, "another User ahead of no bytes")
	refused(t, framed(7, some(204)+"\x08\x00\x00\x00"), api.ErrForm, true, "another User ahead of long data")
	refused(t, framed(0, some(204)+"\x18\x00\x00\x00"), api.ErrBig, true, "long data ahead of the bit 0")
}

// TestAtMostOneUnit opens any bytes with a right sum: what is answered has just those bytes.
func TestAtMostOneUnit(t *testing.T) {
	w := wire.New()
	random := rand.New(rand.NewSource(7))
	came := 0
	all := units()
	for range 40000 {
		b := []byte(framed(0, all[random.Intn(len(all))].Bytes()))
		for range random.Intn(3) {
			b[random.Intn(len(b))] = byte(random.Intn(256))
		}
		s := resealed(string(b))
		p, err := w.Open(s)
		if !w.Sound(s) {
			t.Fatalf("P7.1: Sound of %x is false", s)
		}
		if err != api.OK {
			if !same(p, pdu.PDU{}) {
				t.Fatalf("P7.1: Open of %x = %v, %d", s, p, err)
			}
			continue
		}
		came++
		if again, err := w.Pack(p); again != s || err != api.OK {
			t.Fatalf("P7.2: Open of %x = %v, which is packed as %x, %d", s, p, again, err)
		}
	}
	if came == 0 {
		t.Errorf("P7.2: no unit came at all")
	}
}

// TestFlipped turns bits of packed units within 32 at each place, ahead of them, behind them and over both ends.
func TestFlipped(t *testing.T) {
	w := wire.New()
	random := rand.New(rand.NewSource(8))
	masks := []uint32{0, 1, 1 << 31, math.MaxUint32, 0x04c11db7, 0x80000001, 0x00018000}
	for _, p := range fullest() {
		for _, n := range []int{0, dataOf(p.Kind)} {
			p.Data = some(n)
			s, _ := w.Pack(p)
			for at := -33; at < 8*len(s)+3; at++ {
				for _, mask := range append(masks, random.Uint32()) {
					spoilt := frame.Flip(s, at, mask)
					got, err := w.Open(spoilt)
					if spoilt == s && (err != api.OK || !same(got, p) || !w.Sound(spoilt)) {
						t.Fatalf("P7.3: the same bytes of %s answer %d", p.Name(), err)
					}
					if spoilt != s && (err != api.ErrSum || !same(got, pdu.PDU{}) || w.Sound(spoilt)) {
						t.Fatalf("P7.3: %s Flipped at %d by %08x answers %d", p.Name(), at, mask, err)
					}
				}
			}
		}
	}
}

func TestSound(t *testing.T) {
	w := wire.New()
	for n := range 300 {
		s := some(n)
		if w.Sound(s) {
			t.Errorf("P7.1: Sound of %d bytes without a sum", n)
		}
		// What is sealed may be no frame, let alone a unit.
		if got := w.Sound(s + sumOf(s)); got != ((n+4)%48 == 0) {
			t.Errorf("P7.1: Sound of %d sealed bytes = %v", n, got)
		}
	}
	if w.Sound("") {
		t.Errorf("P7.1: Sound of the empty text")
	}
}

// TestTableIsPromoted is that the table's calls are the wire's own, and that table has layer 2's sums.
func TestTableIsPromoted(t *testing.T) {
	w := wire.New()
	table := crc.Make()
	if w.Table != table {
		t.Errorf("P7.1: the wire's table isn't layer 2's")
	}
	if got := w.Sum("1234", "56789"); got != 0xfc891918 {
		t.Errorf("P7.1: Sum = %08x", got)
	}
	sealed := w.Seal("polliwog")
	if sealed != table.Seal("polliwog") || !w.Fits(sealed) || w.Fits(sealed+"x") || w.Sound(sealed) {
		t.Errorf("P7.1: Seal = %x", sealed)
	}
}

// TestAnswersAreNew is rule 5: lists that are handed in or answered are written over, to their last spare place.
func TestAnswersAreNew(t *testing.T) {
	w := wire.New()
	backing := []seq.Num{1, 2, 3, 4, 5, 6, 7, 8}
	p := pdu.PDU{Kind: pdu.STAT, N: 9, PS: 8, MR: 7, List: backing[2:4]}
	want := framed(0, "\x00\x00\x00\x03\x00\x00\x00\x04\x00\x00\x00\x08\x00\x00\x00\x07\x0b\x00\x00\x09")
	for range 3 {
		if s, err := w.Pack(p); s != want || err != api.OK || wire.Size(p) != 48 {
			t.Errorf("P7.1: a call hangs on the ones ahead")
		}
		if _, err := w.Open(want[1:]); err != api.ErrLength {
			t.Errorf("P7.1: a call hangs on the ones ahead")
		}
	}
	if !slices.Equal(backing, []seq.Num{1, 2, 3, 4, 5, 6, 7, 8}) {
		t.Errorf("P7.1: a call changes a list that is handed in: %v", backing)
	}
	one, _ := w.Open(want)
	two, _ := w.Open(want)
	for i := range one.List[:cap(one.List)] {
		one.List[:cap(one.List)][i] = 99
	}
	if !slices.Equal(two.List, []seq.Num{3, 4}) || two.N != 9 || two.PS != 8 || two.MR != 7 {
		t.Errorf("P7.1: two answers share memory: %v", two)
	}
	if three, err := w.Open(want); err != api.OK || !slices.Equal(three.List, []seq.Num{3, 4}) {
		t.Errorf("P7.1: Open hangs on what was answered: %v", three)
	}
	backing[2] = 77
	if four, err := w.Open(want); err != api.OK || !slices.Equal(four.List, []seq.Num{3, 4}) {
		t.Errorf("P7.1: a list that is handed in is kept: %v", four)
	}
	if w.Table != crc.Make() {
		t.Errorf("P7.1: a call changes the table")
	}
}

// TestWiresShareNothing spoils one wire's table: another one's is its own.
func TestWiresShareNothing(t *testing.T) {
	one, two := wire.New(), wire.New()
	p := pdu.PDU{Kind: pdu.BGN, SQ: 1, N: 4}
	clear(one.Table[:])
	if s, err := two.Pack(p); s != framed(0, p.Bytes()) || err != api.OK {
		t.Errorf("P7.1: two wires share a table")
	}
	if s, err := wire.New().Pack(p); s != framed(0, p.Bytes()) || err != api.OK {
		t.Errorf("P7.1: a new wire has another one's table")
	}
}

// TestEachCallAnswers is of any bytes, and of units of anything.
func TestEachCallAnswers(t *testing.T) {
	w := wire.New()
	random := rand.New(rand.NewSource(9))
	for n := range 500 {
		b := make([]byte, n)
		random.Read(b)
		if p, err := w.Open(string(b)); err == api.OK || !same(p, pdu.PDU{}) || w.Sound(string(b)) {
			t.Errorf("P1, P7.1: Open of %x = %v, %d", b, p, err)
		}
	}
	ints := []int{math.MinInt, -1, 0, 1, 7, 8, 11, 12, 15, 16, 255, 256, math.MaxInt}
	nums := []seq.Num{0, 1, greatest, 1 << 24, math.MaxUint32}
	for range 30000 {
		p := pdu.PDU{
			Kind: ints[random.Intn(len(ints))], SQ: ints[random.Intn(len(ints))],
			N: nums[random.Intn(len(nums))], PS: nums[random.Intn(len(nums))], MR: nums[random.Intn(len(nums))],
			List: list(random.Intn(5)*random.Intn(40), nums[random.Intn(len(nums))]), Self: random.Intn(2) == 0,
			Data: some(random.Intn(3) * random.Intn(150)),
		}
		s, err := w.Pack(p)
		if err != p.Check() || (err == api.OK) != (s != "") || wire.Size(p) != len(s) {
			t.Fatalf("P1, P7.1: Pack of %v = %x, %d, Size %d", p, s, err, wire.Size(p))
		}
	}
}
