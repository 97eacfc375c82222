package pdu_test

import (
	"math"
	"math/rand"
	"slices"
	"strings"
	"testing"

	"polliwog/api"
	"polliwog/pdu"
	"polliwog/seq"
)

const (
	greatest = 1<<24 - 1
	most     = 128 // numbers of a List
)

// what tells of a kind what it has: q SQ, p PS, m MR, n N, f Self, l a List of pairs, t of two; then how much data.
type what struct {
	kind int
	name string
	has  string
	data int
}

var kinds = []what{
	{1, "bgn", "qn", 64}, {2, "bgak", "qn", 0}, {3, "end", "qf", 64}, {4, "endak", "q", 0}, {5, "rs", "qn", 64}, {6, "rsak", "qn", 0},
	{7, "bgrej", "q", 64}, {8, "sd", "n", 200}, {9, "er", "qn", 0}, {10, "poll", "pn", 0}, {11, "stat", "lpmn", 0}, {12, "ustat", "tmn", 0},
	{13, "ud", "", 200}, {14, "md", "", 200}, {15, "erak", "qn", 0},
}

func (w what) is(letter string) bool { return strings.Contains(w.has, letter) }

// words is how many words are ahead of the last one at least.
func (w what) words() int {
	n := 0
	for _, letter := range w.has {
		switch letter {
		case 'q', 'p', 'm':
			n++
		case 't':
			n += 2
		}
	}
	return n
}

func word(x uint32) string {
	return string([]byte{byte(x >> 24), byte(x >> 16), byte(x >> 8), byte(x)})
}

// bytesOf is the bytes of a unit that may be, as the document tells them.
func bytesOf(p pdu.PDU) string {
	w := kinds[p.Kind-1]
	s, filling := p.Data, uint32(0)
	for len(s)%4 != 0 {
		s += "\x00"
		filling++
	}
	for _, x := range p.List {
		s += word(uint32(x))
	}
	if w.is("q") {
		s += word(uint32(p.SQ))
	}
	if w.is("p") {
		s += word(uint32(p.PS))
	}
	if w.is("m") {
		s += word(uint32(p.MR))
	}
	last := filling*(1<<30) + uint32(p.Kind)*(1<<24) + uint32(p.N)
	if p.Self {
		last += 1 << 29
	}
	return s + word(last)
}

// same tells whether two units are alike, whatever their Lists of none are.
func same(p, q pdu.PDU) bool {
	return p.Kind == q.Kind && p.SQ == q.SQ && p.N == q.N && p.PS == q.PS && p.MR == q.MR && slices.Equal(p.List, q.List) &&
		p.Self == q.Self && p.Data == q.Data
}

func zero(p pdu.PDU) bool { return same(p, pdu.PDU{}) }

// some are n bytes of all kinds; the last one is 0, to look what is taken for filling.
func some(n int) string {
	b := make([]byte, n)
	for i := range b {
		b[i] = byte(i*11 + 3)
	}
	if n > 0 {
		b[n-1] = 0
	}
	return string(b)
}

func list(n int, first seq.Num) []seq.Num {
	l := make([]seq.Num, n)
	for i := range l {
		l[i] = (first + seq.Num(i)*70001) & greatest
	}
	return l
}

// least is the unit of a kind with the least of all that it has, fullest that with the greatest.
func least(w what) pdu.PDU {
	p := pdu.PDU{Kind: w.kind}
	if w.is("t") {
		p.List = make([]seq.Num, 2)
	}
	return p
}

func fullest(w what) pdu.PDU {
	p := pdu.PDU{Kind: w.kind, Data: strings.Repeat("\xff", w.data), Self: w.is("f")}
	if w.is("q") {
		p.SQ = 255
	}
	for letter, x := range map[string]*seq.Num{"n": &p.N, "p": &p.PS, "m": &p.MR} {
		if w.is(letter) {
			*x = greatest
		}
	}
	if w.is("l") {
		p.List = slices.Repeat([]seq.Num{greatest}, most)
	}
	if w.is("t") {
		p.List = []seq.Num{greatest, greatest}
	}
	return p
}

// units are many that may be, of each kind.
func units() []pdu.PDU {
	var l []pdu.PDU
	for _, w := range kinds {
		l = append(l, least(w), fullest(w))
		for n := range w.data + 1 {
			p := least(w)
			p.Data = some(n)
			l = append(l, p)
			p = fullest(w)
			p.Data = strings.Repeat("\x00", n)
			l = append(l, p)
		}
		for _, x := range []seq.Num{1, 2, 255, 256, 65535, 65536, 1 << 23, 1<<23 - 1, greatest - 1, 0x123456} {
			l = append(l, numbered(w, x)...)
		}
		if w.is("l") {
			for n := 0; n <= most; n += 2 {
				p := least(w)
				p.List = list(n, 16777000)
				l = append(l, p)
			}
		}
	}
	return l
}

// numbered are units with x at one of the numbers each.
func numbered(w what, x seq.Num) []pdu.PDU {
	var l []pdu.PDU
	p := least(w)
	if w.is("q") && x <= 255 {
		p.SQ = int(x)
		l = append(l, p)
	}
	p = least(w)
	for letter, place := range map[string]*seq.Num{"n": &p.N, "p": &p.PS, "m": &p.MR} {
		if w.is(letter) {
			*place = x
			l = append(l, p)
			*place = 0
		}
	}
	if w.is("t") {
		p.List = []seq.Num{x, 0}
		l = append(l, p)
		p.List = []seq.Num{7, x}
		l = append(l, p)
	}
	return l
}

func TestKindsAndNames(t *testing.T) {
	all := []int{pdu.BGN, pdu.BGAK, pdu.END, pdu.ENDAK, pdu.RS, pdu.RSAK, pdu.BGREJ, pdu.SD, pdu.ER, pdu.POLL, pdu.STAT, pdu.USTAT, pdu.UD, pdu.MD, pdu.ERAK}
	for i, kind := range all {
		if kind != i+1 {
			t.Errorf("P6.1: kind %d is %d", i+1, kind)
		}
		if got := (pdu.PDU{Kind: kind}).Name(); got != kinds[i].name {
			t.Errorf("P6.1: Name of kind %d = %q, want %q", kind, got, kinds[i].name)
		}
		if got := (pdu.PDU{Kind: kind, SQ: -1, Data: some(999), List: list(333, 1<<31), Self: true}).Name(); got != kinds[i].name {
			t.Errorf("P6.1: Name of a unit that may not be = %q, want %q", got, kinds[i].name)
		}
	}
	for _, kind := range noKinds() {
		if got := (pdu.PDU{Kind: kind}).Name(); got != "" {
			t.Errorf("P6.1: Name of kind %d = %q", kind, got)
		}
	}
}

func noKinds() []int {
	return []int{math.MinInt, math.MinInt32, -16, -15, -2, -1, 0, 16, 17, 23, 24, 31, 32, 255, 257, 1 << 32, 1<<32 + 8, math.MaxInt}
}

func TestExample(t *testing.T) {
	p := pdu.PDU{Kind: pdu.SD, N: 5, Data: "ab"}
	if s := p.Bytes(); s != "\x61\x62\x00\x00\x88\x00\x00\x05" {
		t.Errorf("P6.2: Bytes = %x", s)
	}
	if got, err := pdu.Parse("\x61\x62\x00\x00\x88\x00\x00\x05"); !same(got, p) || err != api.OK {
		t.Errorf("P6.2: Parse = %v, %d", got, err)
	}
}

func TestBytesAreKnown(t *testing.T) {
	for _, c := range []struct {
		p    pdu.PDU
		want string
	}{
		{pdu.PDU{Kind: pdu.BGN, SQ: 1, N: 4}, "\x00\x00\x00\x01\x01\x00\x00\x04"},
		{pdu.PDU{Kind: pdu.BGN, SQ: 255, N: greatest, Data: "abc"}, "abc\x00\x00\x00\x00\xff\x41\xff\xff\xff"},
		{pdu.PDU{Kind: pdu.BGAK, SQ: 2, N: 3}, "\x00\x00\x00\x02\x02\x00\x00\x03"},
		{pdu.PDU{Kind: pdu.END, SQ: 3}, "\x00\x00\x00\x03\x03\x00\x00\x00"},
		{pdu.PDU{Kind: pdu.END, SQ: 3, Self: true, Data: "a"}, "a\x00\x00\x00\x00\x00\x00\x03\xe3\x00\x00\x00"},
		{pdu.PDU{Kind: pdu.ENDAK, SQ: 9}, "\x00\x00\x00\x09\x04\x00\x00\x00"},
		{pdu.PDU{Kind: pdu.RS, SQ: 9, N: 1, Data: "abcd"}, "abcd\x00\x00\x00\x09\x05\x00\x00\x01"},
		{pdu.PDU{Kind: pdu.RSAK, SQ: 9, N: 1}, "\x00\x00\x00\x09\x06\x00\x00\x01"},
		{pdu.PDU{Kind: pdu.BGREJ, SQ: 9, Data: "ab"}, "ab\x00\x00\x00\x00\x00\x09\x87\x00\x00\x00"},
		{pdu.PDU{Kind: pdu.SD}, "\x08\x00\x00\x00"},
		{pdu.PDU{Kind: pdu.ER, SQ: 8, N: 258}, "\x00\x00\x00\x08\x09\x00\x01\x02"},
		{pdu.PDU{Kind: pdu.POLL, PS: 65536, N: 7}, "\x00\x01\x00\x00\x0a\x00\x00\x07"},
		{pdu.PDU{Kind: pdu.STAT, PS: 1, MR: 2, N: 3}, "\x00\x00\x00\x01\x00\x00\x00\x02\x0b\x00\x00\x03"},
		{pdu.PDU{Kind: pdu.STAT, PS: 1, MR: 2, N: 3, List: []seq.Num{4, 5}}, "\x00\x00\x00\x04\x00\x00\x00\x05\x00\x00\x00\x01\x00\x00\x00\x02\x0b\x00\x00\x03"},
		{pdu.PDU{Kind: pdu.USTAT, MR: 2, N: 3, List: []seq.Num{4, 5}}, "\x00\x00\x00\x04\x00\x00\x00\x05\x00\x00\x00\x02\x0c\x00\x00\x03"},
		{pdu.PDU{Kind: pdu.UD, Data: "abcde"}, "abcde\x00\x00\x00\xcd\x00\x00\x00"},
		{pdu.PDU{Kind: pdu.MD, Data: "abcdefg"}, "abcdefg\x00\x4e\x00\x00\x00"},
		{pdu.PDU{Kind: pdu.ERAK, SQ: 8, N: 258}, "\x00\x00\x00\x08\x0f\x00\x01\x02"},
	} {
		if s := c.p.Bytes(); s != c.want {
			t.Errorf("P6.2: Bytes of %s = %x, want %x", c.p.Name(), s, c.want)
		}
	}
}

func TestThereAndBack(t *testing.T) {
	for _, p := range units() {
		if err := p.Check(); err != api.OK {
			t.Fatalf("P6.1, P7: Check of %v = %d", p, err)
		}
		s := p.Bytes()
		if s != bytesOf(p) {
			t.Fatalf("P6.2: Bytes of %v = %x, want %x", p, s, bytesOf(p))
		}
		got, err := pdu.Parse(s)
		if !same(got, p) || err != api.OK {
			t.Fatalf("P6.2: Parse of the Bytes of %v = %v, %d", p, got, err)
		}
	}
}

// TestUnlikeUnitsHaveUnlikeBytes is that of any bytes there is at most one unit, asked the other way round.
func TestUnlikeUnitsHaveUnlikeBytes(t *testing.T) {
	seen := map[string]pdu.PDU{}
	for _, p := range units() {
		s := p.Bytes()
		if q, ok := seen[s]; ok && !same(p, q) {
			t.Errorf("P6.2: %v and %v have the same bytes", p, q)
		}
		seen[s] = p
	}
}

// wrong looks whether Check tells that error, and Bytes nothing.
func wrong(t *testing.T, p pdu.PDU, want api.Errno, why string) {
	t.Helper()
	if err := p.Check(); err != want {
		t.Errorf("P6.1, P7: Check of %s of kind %d = %d, want %d", why, p.Kind, err, want)
	}
	if s := p.Bytes(); s != "" {
		t.Errorf("P6.1: Bytes of %s of kind %d: %d bytes", why, p.Kind, len(s))
	}
}

func TestNoSuchKind(t *testing.T) {
	for _, kind := range noKinds() {
		wrong(t, pdu.PDU{Kind: kind}, api.ErrKind, "nothing else wrong")
		wrong(t, pdu.PDU{Kind: kind, Data: some(201), List: list(129, 0)}, api.ErrKind, "too much")
		wrong(t, pdu.PDU{Kind: kind, SQ: 256, N: 1 << 24, Self: true}, api.ErrKind, "wrong numbers")
	}
	wrong(t, pdu.PDU{}, api.ErrKind, "the zero unit")
}

func TestMoreThanMayBeIsBig(t *testing.T) {
	for _, w := range kinds {
		for _, n := range []int{most + 1, most + 2, 300, 5000} {
			p := least(w)
			p.List = list(n, 5)
			wrong(t, p, api.ErrBig, "a long list")
			p.SQ, p.Self, p.Data = -1, true, "a"
			wrong(t, p, api.ErrBig, "a long list, and wrong else")
		}
		for _, n := range []int{65, 66, 68, 200, 201, 204, 999} {
			p := least(w)
			p.Data = some(n)
			switch {
			case w.data == 0:
				wrong(t, p, api.ErrArg, "data of a kind that has none")
			case n > w.data:
				wrong(t, p, api.ErrBig, "long data")
				p.SQ, p.List, p.N = 256, list(3, 0), 1<<24
				wrong(t, p, api.ErrBig, "long data, and wrong else")
			default:
				if err := p.Check(); err != api.OK {
					t.Errorf("P6.1: Check of %d bytes of kind %d = %d", n, w.kind, err)
				}
			}
		}
		p := fullest(w)
		p.List = list(most+1, 0)
		wrong(t, p, api.ErrBig, "a list of one more than may be")
		if w.data > 0 {
			p = fullest(w)
			p.Data += "x"
			wrong(t, p, api.ErrBig, "data of one more than may be")
		}
	}
}

func TestDataOfKindsThatHaveNone(t *testing.T) {
	for _, w := range kinds {
		if w.data > 0 {
			continue
		}
		for _, n := range []int{1, 2, 3, 4, 64, 65, 200, 201, 300} {
			for _, p := range []pdu.PDU{least(w), fullest(w)} {
				p.Data = some(n)
				wrong(t, p, api.ErrArg, "data")
			}
		}
	}
}

func TestNumbersThatMayNotBe(t *testing.T) {
	for _, w := range kinds {
		for _, sq := range []int{math.MinInt, -256, -1, 0, 1, 254, 255, 256, 257, 1 << 24, 1 << 32, 1<<32 + 1, 1 << 40, math.MaxInt} {
			p := least(w)
			p.SQ = sq
			may(t, p, sq == 0 || w.is("q") && sq >= 0 && sq <= 255, "SQ")
		}
		for _, x := range []seq.Num{0, 1, 255, 1 << 23, greatest, 1 << 24, 1<<24 + 1, 1 << 25, 1 << 29, 1 << 30, 1 << 31, math.MaxUint32} {
			right := func(letter string) bool { return x == 0 || w.is(letter) && x <= greatest }
			p := least(w)
			p.N = x
			may(t, p, right("n"), "N")
			p = least(w)
			p.PS = x
			may(t, p, right("p"), "PS")
			p = least(w)
			p.MR = x
			may(t, p, right("m"), "MR")
			for place := range 2 {
				p = least(w)
				p.List = make([]seq.Num, 2)
				p.List[place] = x
				may(t, p, x <= greatest && (w.is("l") || w.is("t")), "List")
			}
		}
		for _, p := range []pdu.PDU{least(w), fullest(w)} {
			p.Self = true
			may(t, p, w.is("f"), "Self")
			p.Self = false
			may(t, p, true, "no Self")
		}
	}
}

// may looks what Check and Bytes say of a unit that may be, or else has a number that may not.
func may(t *testing.T, p pdu.PDU, ok bool, why string) {
	t.Helper()
	if !ok {
		wrong(t, p, api.ErrArg, why)
		return
	}
	if err := p.Check(); err != api.OK || p.Bytes() != bytesOf(p) {
		t.Errorf("P6.1, P7: Check of %v (%s) = %d", p, why, err)
	}
	if got, err := pdu.Parse(p.Bytes()); err != api.OK || !same(got, p) {
		t.Errorf("P6.2: Parse of %v (%s) = %v, %d", p, why, got, err)
	}
}

func TestListsThatMayNotBe(t *testing.T) {
	for _, w := range kinds {
		for n := range most + 1 {
			p := least(w)
			p.List = list(n, 16777200)
			may(t, p, n == 0 && !w.is("t") || n == 2 && w.is("t") || n%2 == 0 && w.is("l"), "a list")
			if n > 0 && w.is("l") {
				for _, x := range []seq.Num{1 << 24, math.MaxUint32} {
					p.List[n-1] = x
					wrong(t, p, api.ErrArg, "a list whose last number isn't one")
					p.List[n-1], p.List[n/2] = 0, x
					wrong(t, p, api.ErrArg, "a list with a number in its midst that isn't one")
					p.List[n/2] = 0
				}
			}
		}
		p := least(w)
		p.List = []seq.Num{}
		may(t, p, !w.is("t"), "an empty list")
	}
}

// refused looks whether s is refused with that error, and nothing beside.
func refused(t *testing.T, s string, want api.Errno, why string) {
	t.Helper()
	if p, err := pdu.Parse(s); !zero(p) || p.List != nil || err != want {
		t.Errorf("P6.2, P7: Parse of %s (%x, %d bytes) = %v, %d, want %d", why, s[max(0, len(s)-16):], len(s), p, err, want)
	}
}

// ending is a last word.
func ending(filling int, rest uint32) string { return word(uint32(filling)<<30 | rest) }

func kindOf(w what) uint32 { return uint32(w.kind) << 24 }

func TestLengthThatIsNoMultiple(t *testing.T) {
	refused(t, "", api.ErrLength, "an empty text")
	for _, p := range units() {
		s := p.Bytes()
		for n := 1; n < 4 && n < len(s); n++ {
			refused(t, s[n:], api.ErrLength, "a rest")
			refused(t, s[:len(s)-n], api.ErrLength, "a part")
			refused(t, strings.Repeat("\x00", n)+s, api.ErrLength, "bytes more ahead")
			refused(t, s+strings.Repeat("\x00", n), api.ErrLength, "bytes more")
		}
	}
}

func TestKindOfBytesThatIsNone(t *testing.T) {
	for n := 0; n < 300; n += 4 {
		for _, last := range []uint32{0, 1, greatest, 1 << 28, 1 << 29, 1 << 30, 1 << 31, 0xf0ffffff} {
			refused(t, strings.Repeat("\x01", n)+word(last), api.ErrKind, "kind 0")
		}
	}
}

func TestWordsAreWanting(t *testing.T) {
	for _, w := range kinds {
		need := w.words()
		for n := range need {
			for _, last := range []uint32{0, 7, 1 << 28, 1 << 29, 1<<28 + greatest} {
				for filling := range 4 {
					refused(t, strings.Repeat("\xff", 4*n)+ending(filling, kindOf(w)|last), api.ErrLength, "wanting words")
				}
			}
		}
		enough := strings.Repeat("\x00", 4*need) + word(kindOf(w))
		if p, err := pdu.Parse(enough); err != api.OK || !same(p, least(w)) {
			t.Errorf("P6.2: Parse of just enough words of %s = %v, %d", w.name, p, err)
		}
		for filling := 1; filling < 4; filling++ {
			refused(t, strings.Repeat("\x00", 4*need)+ending(filling, kindOf(w)), api.ErrLength, "more bytes 0 told than there are")
			refused(t, strings.Repeat("\xff", 4*need)+ending(filling, kindOf(w)|1<<28), api.ErrLength, "more bytes 0 told, and wrong else")
		}
	}
}

// TestBytesNoughtOfStat: all ahead of its last three words is List, so there are none.
func TestBytesNoughtOfStat(t *testing.T) {
	for n := 0; n <= 400; n++ {
		for filling := 1; filling < 4; filling++ {
			s := strings.Repeat("\x00", 4*n+8) + ending(filling, 11<<24)
			refused(t, s, api.ErrLength, "bytes 0 told of a STAT")
		}
	}
}

func TestBigBytes(t *testing.T) {
	for _, w := range kinds {
		own := strings.Repeat("\x00", 4*w.words())
		for data := 0; data <= 240; data += 4 {
			for filling := range 4 {
				if filling > data {
					continue
				}
				n := data - filling
				s := some(n) + strings.Repeat("\x00", filling) + own + ending(filling, kindOf(w))
				switch {
				case w.is("l"):
				case w.data > 0 && n > w.data:
					refused(t, s, api.ErrBig, "long data")
					refused(t, with(s, len(s)-4, s[len(s)-4]|16), api.ErrBig, "long data, and the bit 0")
					if filling > 0 {
						refused(t, with(s, n, 1), api.ErrBig, "long data, and a byte that isn't 0")
					}
				case w.data == 0 && data > 0:
					refused(t, s, api.ErrForm, "data of a kind that has none")
				default:
					if p, err := pdu.Parse(s); err != api.OK || p.Data != some(n) {
						t.Errorf("P6.2: Parse of %d bytes of %s = %v, %d", n, w.name, p, err)
					}
				}
			}
		}
	}
}

func TestListsOfBytes(t *testing.T) {
	for n := range most + 10 {
		s := ""
		for _, x := range list(n, 16777000) {
			s += word(uint32(x))
		}
		s += word(1) + word(2) + word(11<<24|3)
		switch {
		case n > most:
			refused(t, s, api.ErrBig, "a list of more than may be")
			refused(t, "\xff"+s[1:], api.ErrBig, "a list of more than may be, with a number of more bits")
		case n%2 == 1:
			refused(t, s, api.ErrForm, "a list of an odd number")
		default:
			if p, err := pdu.Parse(s); err != api.OK || !same(p, pdu.PDU{Kind: pdu.STAT, N: 3, PS: 1, MR: 2, List: list(n, 16777000)}) {
				t.Errorf("P6.2: Parse of a list of %d = %v, %d", n, p, err)
			}
		}
	}
	refused(t, strings.Repeat("\x00", 1<<20)+word(11<<24), api.ErrBig, "a list of very many")
	refused(t, strings.Repeat("\x00", 1<<20)+word(12<<24), api.ErrForm, "a USTAT with very many bytes ahead")
	refused(t, strings.Repeat("\x00", 1<<20)+word(13<<24), api.ErrBig, "data of very many bytes")
}

func with(s string, i int, b byte) string {
	l := []byte(s)
	l[i] = b
	return string(l)
}

// TestEachByteChanged makes each byte of units each other one: it is refused, or is another unit with just those bytes.
func TestEachByteChanged(t *testing.T) {
	for _, w := range kinds {
		for _, p := range []pdu.PDU{least(w), fullest(w), few(w)} {
			s := p.Bytes()
			for i := range len(s) {
				for b := range 256 {
					if s[i] != byte(b) {
						known(t, with(s, i, byte(b)))
					}
				}
			}
		}
	}
}

// few is a unit with some data, a short list, and numbers of their own.
func few(w what) pdu.PDU {
	p := fullest(w)
	p.Data = some(min(w.data, 5))
	if w.is("l") {
		p.List = list(4, 77)
	}
	if w.is("q") {
		p.SQ = 18
	}
	return p
}

// known holds Parse against another reading of the document.
func known(t *testing.T, s string) {
	t.Helper()
	want, wantErr := parsed(s)
	got, err := pdu.Parse(s)
	if !same(got, want) || err != wantErr {
		t.Fatalf("P6.2, P7: Parse of %x = %v, %d, want %v, %d", s, got, err, want, wantErr)
	}
	if err == api.OK && (got.Bytes() != s || got.Check() != api.OK) {
		t.Fatalf("P6.2: Parse of %x = %v, which has the bytes %x", s, got, got.Bytes())
	}
}

// parsed tells bit by bit what is wrong, in the document's order.
func parsed(s string) (pdu.PDU, api.Errno) {
	var none pdu.PDU
	if len(s) == 0 || len(s)%4 != 0 {
		return none, api.ErrLength
	}
	var words []uint32
	for i := 0; i < len(s); i += 4 {
		words = append(words, uint32(s[i])<<24|uint32(s[i+1])<<16|uint32(s[i+2])<<8|uint32(s[i+3]))
	}
	last := words[len(words)-1]
	words = words[:len(words)-1]
	kind := int(last >> 24 & 15)
	if kind == 0 {
		return none, api.ErrKind
	}
	w := kinds[kind-1]
	p := pdu.PDU{Kind: kind, N: seq.Num(last & greatest), Self: last>>29&1 == 1}
	wrongNumber := false
	for _, letter := range []string{"m", "p", "q"} {
		if !w.is(letter) {
			continue
		}
		if len(words) == 0 {
			return none, api.ErrLength
		}
		x := words[len(words)-1]
		words = words[:len(words)-1]
		switch letter {
		case "m":
			p.MR = seq.Num(x)
		case "p":
			p.PS = seq.Num(x)
		case "q":
			p.SQ = int(x)
		}
		wrongNumber = wrongNumber || x > greatest || letter == "q" && x > 255
	}
	count := 0
	if w.is("t") {
		count = 2
	}
	if w.is("l") {
		count = len(words)
	}
	if len(words) < count {
		return none, api.ErrLength
	}
	for _, x := range words[len(words)-count:] {
		p.List = append(p.List, seq.Num(x))
		wrongNumber = wrongNumber || x > greatest
	}
	ahead, filling := 4*(len(words)-count), int(last>>30)
	if filling > ahead {
		return none, api.ErrLength
	}
	p.Data = s[:ahead-filling]
	if w.data > 0 && len(p.Data) > w.data || len(p.List) > most {
		return none, api.ErrBig
	}
	wrongBit := last>>28&1 == 1 || p.Self && !w.is("f") || p.N != 0 && !w.is("n")
	wrongData := w.data == 0 && ahead > 0 || strings.Trim(s[ahead-filling:ahead], "\x00") != ""
	if wrongNumber || wrongBit || wrongData || len(p.List)%2 == 1 {
		return none, api.ErrForm
	}
	return p, api.OK
}

// TestShortenedAndLengthened takes words away and lays words in, at each place.
func TestShortenedAndLengthened(t *testing.T) {
	for _, w := range kinds {
		for _, p := range []pdu.PDU{least(w), few(w)} {
			s := p.Bytes()
			for i := 0; i <= len(s); i++ {
				for n := 1; n <= 12; n++ {
					known(t, s[:i]+strings.Repeat("\x00", n)+s[i:])
					known(t, s[:i]+strings.Repeat("\x0b", n)+s[i:])
					known(t, s[:i]+s[min(i+n, len(s)):])
				}
				known(t, s[:i])
				known(t, s[i:])
			}
		}
	}
}

// TestLastWords asks each first byte of a last word, with any number of bytes ahead.
func TestLastWords(t *testing.T) {
	for n := 0; n <= 44; n += 4 {
		for first := range 256 {
			for _, ahead := range []string{"\x00", "\x01", "\xff"} {
				for _, rest := range []string{"\x00\x00\x00", "\x00\x00\x01", "\xff\xff\xff"} {
					known(t, strings.Repeat(ahead, n)+string([]byte{byte(first)})+rest)
				}
			}
			known(t, strings.Repeat("\x00\x00\x00\x09", n/4)+string([]byte{byte(first)})+"\x00\x00\x00")
		}
	}
}

func TestAnyBytes(t *testing.T) {
	random := rand.New(rand.NewSource(6))
	for range 60000 {
		b := make([]byte, random.Intn(80))
		for i := range b {
			if random.Intn(3) == 0 {
				b[i] = byte(random.Intn(256))
			}
		}
		if len(b) >= 4 {
			b[len(b)-4] = byte(random.Intn(256))
		}
		known(t, string(b))
	}
}

// TestWhichErrorComesFirst is of bytes that are wrong in more than one way.
func TestWhichErrorComesFirst(t *testing.T) {
	refused(t, "abc"+ending(3, 0), api.ErrLength, "no multiple of four, of no kind")
	refused(t, ending(3, 1<<28), api.ErrKind, "no kind, more bytes 0 told than there are, the bit 0")
	refused(t, ending(3, 1<<28|8<<24), api.ErrLength, "more bytes 0 told than there are, the bit 0")
	refused(t, some(204)+ending(0, 1<<28|13<<24|5), api.ErrBig, "long data, the bit 0, N")
	refused(t, some(204)+word(0)+ending(0, 4<<24), api.ErrForm, "long data of a kind that has none")
	refused(t, strings.Repeat("\xff", 4*130)+ending(1, 11<<24), api.ErrLength, "a long list, bytes 0 told")
	refused(t, strings.Repeat("\xff", 4*131)+ending(0, 1<<29|11<<24), api.ErrBig, "a long list, numbers of more bits, Self")
}

// TestAnswersAreNew is rule 5: lists that are handed in or answered are written over, to their last spare place.
func TestAnswersAreNew(t *testing.T) {
	backing := []seq.Num{1, 2, 3, 4, 5, 6, 7, 8}
	p := pdu.PDU{Kind: pdu.STAT, N: 9, PS: 8, MR: 7, List: backing[2:4]}
	want := "\x00\x00\x00\x03\x00\x00\x00\x04\x00\x00\x00\x08\x00\x00\x00\x07\x0b\x00\x00\x09"
	for range 3 {
		if p.Check() != api.OK || p.Bytes() != want || p.Name() != "stat" {
			t.Errorf("P6.1: a call hangs on the ones ahead")
		}
	}
	if !slices.Equal(backing, []seq.Num{1, 2, 3, 4, 5, 6, 7, 8}) {
		t.Errorf("P6.1: a call changes a list that is handed in: %v", backing)
	}
	one, _ := pdu.Parse(want)
	two, _ := pdu.Parse(want)
	spare := one.List[:cap(one.List)]
	for i := range spare {
		spare[i] = 99
	}
	if !slices.Equal(two.List, []seq.Num{3, 4}) || two.N != 9 || two.PS != 8 || two.MR != 7 {
		t.Errorf("P6.1: two answers share memory: %v", two)
	}
	if three, err := pdu.Parse(want); err != api.OK || !slices.Equal(three.List, []seq.Num{3, 4}) {
		t.Errorf("P6.1: Parse hangs on what was answered: %v", three)
	}
	for _, w := range kinds {
		if p, _ := pdu.Parse(least(w).Bytes()); len(least(w).List) == 0 && p.List != nil {
			t.Errorf("P6.2: a List of none of %s isn't nil", w.name)
		}
	}
}

// TestEachCallAnswers is of units of anything.
func TestEachCallAnswers(t *testing.T) {
	ints := []int{math.MinInt, -1, 0, 1, 7, 8, 11, 12, 15, 16, 255, 256, math.MaxInt}
	nums := []seq.Num{0, 1, greatest, 1 << 24, math.MaxUint32}
	random := rand.New(rand.NewSource(16))
	for range 50000 {
		p := pdu.PDU{
			Kind: ints[random.Intn(len(ints))], SQ: ints[random.Intn(len(ints))],
			N: nums[random.Intn(len(nums))], PS: nums[random.Intn(len(nums))], MR: nums[random.Intn(len(nums))],
			List: list(random.Intn(5)*random.Intn(40), nums[random.Intn(len(nums))]), Self: random.Intn(2) == 0,
			Data: some(random.Intn(3) * random.Intn(150)),
		}
		err, s := p.Check(), p.Bytes()
		if (err == api.OK) != (s != "") {
			t.Fatalf("P1, P6.1: Check of %v = %d, Bytes %x", p, err, s)
		}
		if (p.Name() == "") != (err == api.ErrKind) {
			t.Fatalf("P1, P6.1: Check of %v = %d, Name %q", p, err, p.Name())
		}
	}
}
