package event_test

import (
	"fmt"
	"math"
	"math/rand"
	"slices"
	"strings"
	"testing"

	"polliwog/api"
	"polliwog/event"
)

// asked is what a request of each kind may have, by the document's words.
var asked = []struct {
	name        string
	kind, want  int
	data        int // at most so many bytes; below 0: none
	least, most int // messages
}{
	{"Establish", event.Establish, 1, 64, 0, 0},
	{"Accept", event.Accept, 2, -1, 0, 0},
	{"Release", event.Release, 3, 64, 0, 0},
	{"Resync", event.Resync, 4, 64, 0, 0},
	{"Resynced", event.Resynced, 5, -1, 0, 0},
	{"Recovered", event.Recovered, 6, -1, 0, 0},
	{"Data", event.Data, 7, 200, 0, 0},
	{"Unit", event.Unit, 8, 200, 0, 0},
	{"Manage", event.Manage, 9, 200, 0, 0},
	{"Take", event.Take, 10, -1, 1, 64},
	{"Retrieve", event.Retrieve, 11, -1, 0, 0},
}

// told is how the text of a signal of each kind begins, and whether it has data.
var told = []struct {
	name       string
	kind, want int
	word       string
	data       bool
}{
	{"EstablishInd", event.EstablishInd, 1, "establish", true},
	{"EstablishConf", event.EstablishConf, 2, "established", false},
	{"ReleaseInd", event.ReleaseInd, 3, "release", true},
	{"ReleaseConf", event.ReleaseConf, 4, "released", false},
	{"ResyncInd", event.ResyncInd, 5, "resync", true},
	{"ResyncConf", event.ResyncConf, 6, "resynced", false},
	{"RecoverInd", event.RecoverInd, 7, "recover", false},
	{"DataInd", event.DataInd, 8, "data", true},
	{"UnitInd", event.UnitInd, 9, "unit", true},
	{"ManageInd", event.ManageInd, 10, "manage", true},
	{"Retrieved", event.Retrieved, 11, "retrieved", true},
	{"Report", event.Report, 12, "error", false},
}

// numbers are such as no kind, and no count of messages, may be.
var numbers = []int{math.MinInt, math.MinInt32, -256, -64, -12, -11, -2, -1, 13, 14, 15, 65, 100, 255, 256 + 1, 256 + 10, 1 << 31, 1<<32 + 1, 1<<32 + 10, math.MaxInt}

func TestKindsAreCounted(t *testing.T) {
	for _, w := range asked {
		if w.kind != w.want {
			t.Errorf("P10.1: %s is %d, want %d", w.name, w.kind, w.want)
		}
	}
	for _, w := range told {
		if w.kind != w.want {
			t.Errorf("P10.1: %s is %d, want %d", w.name, w.kind, w.want)
		}
	}
}

// may asks for a request's Check.
func may(t *testing.T, r event.Request, want api.Errno, why string) {
	t.Helper()
	if got := r.Check(); got != want {
		t.Errorf("P10.1: %s: Check of kind %d, %d bytes, N %d = %d, want %d", why, r.Kind, len(r.Data), r.N, got, want)
	}
}

func TestRequestsThatMayBe(t *testing.T) {
	for _, w := range asked {
		for size := 0; size <= max(w.data, 0); size++ {
			may(t, event.Request{Kind: w.kind, Data: strings.Repeat("\x00", size), N: w.least}, api.OK, w.name)
		}
		for n := w.least; n <= w.most; n++ {
			may(t, event.Request{Kind: w.kind, N: n}, api.OK, w.name)
		}
	}
}

func TestNoSuchRequest(t *testing.T) {
	long := strings.Repeat("a", 201)
	for _, kind := range append([]int{0, 12}, numbers...) {
		may(t, event.Request{Kind: kind}, api.ErrKind, "no such kind")
		may(t, event.Request{Kind: kind, Data: long}, api.ErrKind, "no such kind, much data")
		may(t, event.Request{Kind: kind, N: -1}, api.ErrKind, "no such kind, N below 0")
		may(t, event.Request{Kind: kind, Data: long, N: 1}, api.ErrKind, "no such kind, much data, N")
	}
}

func TestMoreDataThanMayBe(t *testing.T) {
	for _, w := range asked {
		for _, n := range []int{w.least, w.most + 1, -1, 1} {
			for _, size := range []int{1, 63, 64, 65, 66, 128, 199, 200, 201, 202, 256, 65536} {
				want := api.OK
				switch {
				case w.data >= 0 && size > w.data:
					want = api.ErrBig
				case w.data < 0, n < w.least, n > w.most:
					want = api.ErrArg
				}
				may(t, event.Request{Kind: w.kind, Data: strings.Repeat("a", size), N: n}, want, w.name)
			}
		}
	}
}

func TestNumbersThatMayNotBe(t *testing.T) {
	for _, w := range asked {
		for _, n := range append([]int{w.least - 1, w.most + 1}, numbers...) {
			if n < w.least || n > w.most {
				may(t, event.Request{Kind: w.kind, N: n}, api.ErrArg, w.name)
				may(t, event.Request{Kind: w.kind, Data: "a", N: n}, api.ErrArg, w.name+" with data")
			}
		}
	}
}

func TestExample(t *testing.T) {
	s := event.Signal{Kind: event.ReleaseInd, Self: true, Data: "a"}
	if got := s.Text(); got != "release self 61" {
		t.Errorf("P10.1: Text = %q", got)
	}
}

// hex is bytes as fmt writes them.
func hex(s string) string {
	if s == "" {
		return "-"
	}
	return fmt.Sprintf("%x", []byte(s))
}

// some are data of signals.
var some = []string{"", "a", "-", "\x00", "\x00\x00", "\xff", "é\x80", "self", strings.Repeat("\x9c", 64), strings.Repeat("z", 300)}

// TestTexts has each kind with what it has, and with what it hasn't, which isn't told.
func TestTexts(t *testing.T) {
	for _, w := range told {
		for _, data := range some {
			for _, self := range []bool{false, true} {
				for _, n := range []int{0, 1, -1, 12, math.MinInt, math.MaxInt} {
					s := event.Signal{Kind: w.kind, Data: data, Self: self, Code: 'Q', N: n}
					want := w.word
					switch {
					case w.kind == 3 && self:
						want += " self"
					case w.kind == 3:
						want += " user"
					case w.kind == 12:
						want += " Q"
					}
					if w.data {
						want += " " + hex(data)
					}
					if got := s.Text(); got != want {
						t.Fatalf("P10.1: Text of %+v = %q, want %q", s, got, want)
					}
				}
			}
		}
	}
}

// TestReports has every byte as the letter: V alone has a number, too.
func TestReports(t *testing.T) {
	for code := range 256 {
		for _, n := range []int{0, 1, 10, 64, -1, -30, math.MinInt, math.MaxInt} {
			s := event.Signal{Kind: event.Report, Code: byte(code), N: n}
			want := "error " + string([]byte{byte(code)})
			if code == 'V' {
				want += fmt.Sprintf(" %d", n)
			}
			if got := s.Text(); got != want {
				t.Fatalf("P10.1: Text of %+v = %q, want %q", s, got, want)
			}
		}
	}
}

func TestNoSuchSignal(t *testing.T) {
	for _, kind := range append([]int{0}, numbers...) {
		if got := (event.Signal{Kind: kind, Data: "a", Self: true, Code: 'V', N: 1}).Text(); got != "" {
			t.Errorf("P10.1: Text of kind %d = %q, want none", kind, got)
		}
	}
}

// named is a signal with only what the document names of its kind.
func named(s event.Signal) event.Signal {
	out := event.Signal{Kind: s.Kind}
	switch s.Kind {
	case 1, 5, 8, 9, 10, 11:
		out.Data = s.Data
	case 3:
		out.Data, out.Self = s.Data, s.Self
	case 12:
		out.Code = s.Code
		if s.Code == 'V' {
			out.N = s.N
		}
	}
	return out
}

// TestUnlikeSignalsHaveUnlikeTexts is P10.2.
func TestUnlikeSignalsHaveUnlikeTexts(t *testing.T) {
	texts := map[string]event.Signal{}
	unlike := map[event.Signal]string{}
	for kind := 1; kind <= 12; kind++ {
		for _, data := range some {
			for i := range 2 * 256 * 4 {
				s := event.Signal{Kind: kind, Data: data, Self: i&1 == 1, Code: byte(i >> 1), N: []int{0, 1, 11, -1}[i>>9]}
				text := s.Text()
				if other, ok := texts[text]; ok && other != named(s) {
					t.Fatalf("P10.2: %+v and %+v are both %q", other, s, text)
				}
				if other, ok := unlike[named(s)]; ok && other != text {
					t.Fatalf("P10.2: %+v is %q, and with what isn't named unlike %q", s, text, other)
				}
				texts[text], unlike[named(s)] = named(s), text
			}
		}
	}
}

func TestHex(t *testing.T) {
	for _, c := range [][2]string{{"", "-"}, {"a", "61"}, {"-", "2d"}, {"\x00", "00"}, {"\x0f\xf0", "0ff0"}, {"\xab\xcd\xef", "abcdef"}, {"ub", "7562"}, {"é", "c3a9"}} {
		if got := event.Hex(c[0]); got != c[1] {
			t.Errorf("P10.1: Hex(%q) = %q, want %q", c[0], got, c[1])
		}
	}
	for i := range 65536 {
		both := string([]byte{byte(i >> 8), byte(i)})
		if got := event.Hex(both); got != hex(both) {
			t.Fatalf("P10.1: Hex(%q) = %q, want %q", both, got, hex(both))
		}
	}
}

// TestHexThereAndBack has bytes of any length.
func TestHexThereAndBack(t *testing.T) {
	r := rand.New(rand.NewSource(10))
	for size := range 600 {
		b := make([]byte, size)
		for i := range b {
			b[i] = byte(r.Intn(256))
		}
		text := event.Hex(string(b))
		if text != hex(string(b)) {
			t.Fatalf("P10.1: Hex(%q) = %q", b, text)
		}
		if back, ok := event.Unhex(text); !ok || back != string(b) {
			t.Fatalf("P10.1: Unhex(%q) = %q, %v, want %q", text, back, ok, b)
		}
	}
}

// unhexed is the bytes that are so written, by a look at all there may be.
func unhexed() map[string]string {
	all := map[string]string{"-": ""}
	for i := range 256 {
		all[fmt.Sprintf("%02x", i)] = string([]byte{byte(i)})
	}
	return all
}

// TestUnhexOfShortTexts has all texts of no, one and two bytes.
func TestUnhexOfShortTexts(t *testing.T) {
	all, texts := unhexed(), []string{""}
	for i := range 256 {
		texts = append(texts, string([]byte{byte(i)}))
		for j := range 256 {
			texts = append(texts, string([]byte{byte(i), byte(j)}))
		}
	}
	for _, s := range texts {
		want, is := all[s]
		if got, ok := event.Unhex(s); ok != is || got != want {
			t.Fatalf("P10.1: Unhex(%q) = %q, %v, want %q, %v", s, got, ok, want, is)
		}
	}
}

func TestTextsOfNoBytes(t *testing.T) {
	texts := []string{"--", "---", "-00", "00-", "0-", "000", "00000", "0 00", " 00", "00 ", "0x00", "+0", "0A", "FF", "abCd", "abcg", "ab\x00\x00", "６１", "61\n"}
	for i := range 8 {
		for _, bad := range []byte{0, ' ', '-', '/', ':', '@', 'A', 'F', '`', 'g', 0x80, 0xff} {
			b := []byte("01ab9fe0")
			b[i] = bad
			texts = append(texts, string(b))
		}
	}
	for n := 1; n < 400; n += 2 {
		texts = append(texts, strings.Repeat("a", n))
	}
	for _, s := range texts {
		if got, ok := event.Unhex(s); ok || got != "" {
			t.Errorf("P10.1: Unhex(%q) = %q, %v, want none", s, got, ok)
		}
	}
}

// TestAlikeIsAlike asks each call again, after others: nothing is kept.
func TestAlikeIsAlike(t *testing.T) {
	var first, second []string
	for _, l := range []*[]string{&first, &second} {
		for _, w := range told {
			*l = append(*l, event.Signal{Kind: w.kind, Data: "ab", Code: 'V', N: 3}.Text())
		}
		*l = append(*l, event.Hex("xyz"))
	}
	if !slices.Equal(first, second) {
		t.Errorf("P10.1: %q, and again %q", first, second)
	}
}

// TestEachCallAnswers is P1: any values of the arguments' types.
func TestEachCallAnswers(t *testing.T) {
	r := rand.New(rand.NewSource(1))
	for range 3000 {
		b := make([]byte, r.Intn(300))
		for i := range b {
			b[i] = byte(r.Intn(256))
		}
		s, n, kind := string(b), r.Int()-r.Int(), r.Intn(16)-2
		event.Request{Kind: kind, Data: s, N: n}.Check()
		event.Request{Kind: n, Data: s, N: kind}.Check()
		event.Signal{Kind: kind, Data: s, Self: n < 0, Code: byte(n), N: n}.Text()
		event.Signal{Kind: n, Data: s, Code: 'V', N: kind}.Text()
		if back, ok := event.Unhex(s); ok && event.Hex(back) != s {
			t.Fatalf("P1: Unhex(%q) = %q, whose Hex is unlike", s, back)
		}
	}
}
