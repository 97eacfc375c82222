package rules_test

import (
	"math"
	"math/rand"
	"slices"
	"strings"
	"testing"

	"polliwog/event"
	"polliwog/pdu"
	"polliwog/rules"
)

// states are the names of all, in the order of their numbers.
var states = []string{"Idle", "Outgoing", "Incoming", "Leaving", "Resyncing", "Resynced", "Recovering", "Answered", "Recovered", "Ready"}

// units is the document's table, as it stands there.
const units = `
| | BGN | BGAK | END | ENDAK | RS | RSAK | BGREJ | SD | ER | POLL | STAT | USTAT | UD | MD | ERAK |
| Idle | H | R | H | . | R | R | W | R | R | R | R | R | H | H | R |
| Outgoing | H | H | . | . | . | . | H | . | . | . | . | . | H | H | . |
| Incoming | H | W | H | W | W | W | W | W | W | W | W | W | H | H | W |
| Leaving | H | . | H | H | . | . | H | . | . | . | . | . | H | H | . |
| Resyncing | H | . | H | F | H | H | F | . | . | . | . | . | H | H | . |
| Resynced | H | . | H | F | H | . | F | . | . | . | . | . | H | H | . |
| Recovering | H | . | H | F | H | . | F | . | H | . | . | . | H | H | H |
| Answered | H | . | H | F | H | . | F | . | H | . | . | . | H | H | . |
| Recovered | H | . | H | F | H | . | F | . | H | . | . | . | H | H | . |
| Ready | H | . | H | F | H | . | F | H | H | H | H | H | H | H | . |
`

// requests is in which states each may be made, in the order of their numbers.
var requests = [][]int{
	event.Establish: {rules.Idle, rules.Leaving},
	event.Accept:    {rules.Incoming},
	event.Release:   {rules.Outgoing, rules.Incoming, rules.Resyncing, rules.Resynced, rules.Recovering, rules.Answered, rules.Recovered, rules.Ready},
	event.Resync:    {rules.Answered, rules.Ready},
	event.Resynced:  {rules.Resynced},
	event.Recovered: {rules.Answered, rules.Recovered},
	event.Data:      {rules.Ready},
	event.Unit:      {1, 2, 3, 4, 5, 6, 7, 8, 9, 10},
	event.Manage:    {1, 2, 3, 4, 5, 6, 7, 8, 9, 10},
	event.Take:      {1, 2, 3, 4, 5, 6, 7, 8, 9, 10},
	event.Retrieve:  {1, 2, 3, 4, 5, 6, 7, 8, 9, 10},
}

// none are numbers of no state, no kind and no request.
var none = []int{math.MinInt, math.MinInt + 1, -256, -17, -16, -15, -11, -10, -2, -1, 0, 16, 17, 26, 31, 32, 110, 165, 256, 257, 266, 1 << 16, 1<<32 + 1, 1<<32 + 10, math.MaxInt - 1, math.MaxInt}

// cells are the parts of a line of a table.
func cells(line string) []string {
	var l []string
	for _, s := range strings.Split(strings.Trim(line, "|"), "|") {
		l = append(l, strings.TrimSpace(s))
	}
	return l
}

// kindNamed is the number of a kind of unit; 0: there is none of that name.
func kindNamed(name string) int {
	for kind := pdu.BGN; kind <= pdu.ERAK; kind++ {
		if (pdu.PDU{Kind: kind}).Name() == strings.ToLower(name) {
			return kind
		}
	}
	return 0
}

// TestNumbers has the states and the deeds as the document counts them.
func TestNumbers(t *testing.T) {
	s := []int{rules.Idle, rules.Outgoing, rules.Incoming, rules.Leaving, rules.Resyncing, rules.Resynced, rules.Recovering, rules.Answered, rules.Recovered, rules.Ready}
	if !slices.Equal(s, []int{1, 2, 3, 4, 5, 6, 7, 8, 9, 10}) {
		t.Errorf("P13.2: the states are %v", s)
	}
	d := []int{rules.Ignore, rules.Handle, rules.Wrong, rules.Refuse, rules.Fall}
	if !slices.Equal(d, []int{0, 1, 2, 3, 4}) {
		t.Errorf("P13.2: what is done is %v", d)
	}
}

// TestExample is the document's example.
func TestExample(t *testing.T) {
	if got := rules.Of(rules.Idle, pdu.SD); got != rules.Refuse {
		t.Errorf("P13.2: an SD in Idle: %d", got)
	}
	if got := rules.Of(rules.Outgoing, pdu.SD); got != rules.Ignore {
		t.Errorf("P13.2: an SD in Outgoing: %d", got)
	}
}

// TestOfEach holds what is done with each kind in each state against the
// document's table.
func TestOfEach(t *testing.T) {
	deeds := map[string]int{".": rules.Ignore, "H": rules.Handle, "W": rules.Wrong, "R": rules.Refuse, "F": rules.Fall}
	lines := strings.Split(strings.TrimSpace(units), "\n")
	heads := cells(lines[0])[1:]
	seen := 0
	for i, line := range lines[1:] {
		row := cells(line)
		if row[0] != states[i] || len(row) != len(heads)+1 {
			t.Fatalf("row %d of the table is %v", i, row)
		}
		for j, head := range heads {
			want, there := deeds[row[j+1]]
			kind := kindNamed(head)
			if !there || kind == 0 {
				t.Fatalf("%s, %s of the table: %q", row[0], head, row[j+1])
			}
			if got := rules.Of(i+1, kind); got != want {
				t.Errorf("P13.2: %s in %s: %d, want %d", head, row[0], got, want)
			}
			seen++
		}
	}
	if seen != 150 {
		t.Errorf("P13.2: %d words looked at", seen)
	}
}

// TestLetters has a letter for each kind but UD and MD.
func TestLetters(t *testing.T) {
	order := []int{pdu.SD, pdu.BGN, pdu.BGAK, pdu.BGREJ, pdu.END, pdu.ENDAK, pdu.POLL, pdu.STAT, pdu.USTAT, pdu.RS, pdu.RSAK, pdu.ER, pdu.ERAK}
	for i, kind := range order {
		if got := rules.Letter(kind); got != byte('A'+i) {
			t.Errorf("P13.1: the letter of kind %d is %q, want %q", kind, got, byte('A'+i))
		}
	}
	for _, kind := range append([]int{pdu.UD, pdu.MD}, none...) {
		if got := rules.Letter(kind); got != 0 {
			t.Errorf("P13.1: the letter of kind %d is %q", kind, got)
		}
	}
}

// TestMayEach asks for each request in each state.
func TestMayEach(t *testing.T) {
	for request := event.Establish; request <= event.Retrieve; request++ {
		for state := rules.Idle; state <= rules.Ready; state++ {
			want := slices.Contains(requests[request], state)
			if got := rules.May(state, request); got != want {
				t.Errorf("P13.2: request %d in %s: %v", request, states[state-1], got)
			}
		}
	}
}

// TestNames has the states' names, unlike ones.
func TestNames(t *testing.T) {
	for i, name := range states {
		if got := rules.Name(i + 1); got != strings.ToLower(name) {
			t.Errorf("P13.1: the name of %d is %q", i+1, got)
		}
	}
}

// TestOfNone has nothing for what there isn't.
func TestOfNone(t *testing.T) {
	for _, x := range append(none, 11, 12) {
		if got := rules.Name(x); got != "" {
			t.Errorf("P13.1: the name of %d is %q", x, got)
		}
		for y := -1; y < 20; y++ {
			if got := rules.Of(x, y); got != rules.Ignore {
				t.Errorf("P13.1: kind %d in state %d: %d", y, x, got)
			}
			if rules.May(x, y) {
				t.Errorf("P13.1: request %d in state %d may be made", y, x)
			}
		}
	}
	for _, x := range none {
		for state := rules.Idle; state <= rules.Ready; state++ {
			if got := rules.Of(state, x); got != rules.Ignore {
				t.Errorf("P13.1: kind %d in state %d: %d", x, state, got)
			}
			if rules.May(state, x) {
				t.Errorf("P13.1: request %d in state %d may be made", x, state)
			}
		}
	}
	for request := 12; request < 20; request++ {
		if rules.May(rules.Ready, request) || rules.May(rules.Idle, request) {
			t.Errorf("P13.1: request %d may be made", request)
		}
	}
}

// TestEachCallAnswers is P1: any values of the arguments' types.
func TestEachCallAnswers(t *testing.T) {
	r := rand.New(rand.NewSource(1))
	for range 5000 {
		x, y := int(r.Uint64()), int(r.Uint64())
		if r.Intn(2) == 0 {
			x = r.Intn(14) - 1
		}
		if r.Intn(2) == 0 {
			y = r.Intn(20) - 1
		}
		deed := rules.Of(x, y)
		if deed < rules.Ignore || deed > rules.Fall || deed != rules.Of(x, y) {
			t.Fatalf("P13.1: kind %d in state %d: %d", y, x, deed)
		}
		real := x >= rules.Idle && x <= rules.Ready
		if !real && (deed != rules.Ignore || rules.May(x, y) || rules.Name(x) != "") {
			t.Fatalf("P13.1: state %d: %d, %v, %q", x, deed, rules.May(x, y), rules.Name(x))
		}
		if letter := rules.Letter(y); letter != 0 && (letter < 'A' || letter > 'M') {
			t.Fatalf("P13.1: the letter of kind %d is %q", y, letter)
		}
	}
}
