package tests

import (
	"fmt"
	"math"
	"slices"
	"strconv"
	"strings"
	"testing"

	"loop.example/carding/impl"
)

func ins(op, a, b, to int) impl.Ins { return impl.Ins{Op: op, A: a, B: b, To: to} }

func markIns(rule int) impl.Ins { return ins(1, rule, 0, 0) }

func ifIns(a, b, to int) impl.Ins { return ins(3, a, b, to) }

var getIns, stopIns = ins(2, 0, 0, 0), ins(4, 0, 0, 0)

func plainProgText(p []impl.Ins) string {
	var text strings.Builder
	for _, x := range p {
		switch x.Op {
		case 1:
			fmt.Fprintf(&text, "mark %d\n", x.A)
		case 2:
			text.WriteString("get\n")
		case 3:
			fmt.Fprintf(&text, "if %d %d %d\n", x.A, x.B, x.To)
		case 4:
			text.WriteString("stop\n")
		default:
			text.WriteString("none\n")
		}
	}
	return text.String()
}

// plainDoors is the places of all doors.
func plainDoors(p []impl.Ins) map[int]bool {
	doors := map[int]bool{}
	for place, x := range p {
		if x.Op == 2 {
			doors[place] = true
			if place > 0 && p[place-1].Op == 1 {
				doors[place-1] = true
			}
		}
	}
	return doors
}

func plainProgOk(p []impl.Ins) bool {
	if len(p) == 0 || len(p) > 1500 || p[len(p)-1].Op != 4 {
		return false
	}
	doors := plainDoors(p)
	if !doors[0] {
		return false
	}
	for place, x := range p {
		ok := false
		switch x.Op {
		case 1:
			ok = x == markIns(x.A) && -1 < x.A && x.A < 5 && doors[place]
		case 2:
			ok = x == getIns
		case 3:
			ok = -1 < x.A && x.A < x.B+1 && x.B < 256 && doors[x.To]
		case 4:
			ok = x == stopIns
		}
		if !ok {
			return false
		}
	}
	return true
}

// plainLines takes any line that begins with a word, and any numbers behind it: what was not written so is seen by its text.
func plainLines(text string) []impl.Ins {
	var out []impl.Ins
	for _, line := range strings.Split(strings.TrimSuffix(text, "\n"), "\n") {
		words := strings.Split(line, " ")
		numbers := [3]int{}
		for i := 1; i < len(words) && i < 4; i++ {
			numbers[i-1], _ = strconv.Atoi(words[i])
		}
		op := slices.Index([]string{"mark", "get", "if", "stop"}, words[0]) + 1
		out = append(out, ins(op, numbers[0], numbers[1], numbers[2]))
	}
	return out
}

func plainProgRead(text string) ([]impl.Ins, bool) {
	if p := plainLines(text); len(text) <= 40000 && plainProgOk(p) && plainProgText(p) == text {
		return p, true
	}
	return nil, false
}

// handProg is any lines, in which "op" has all numbers of an instruction behind it.
func handProg(text string) []impl.Ins {
	var out []impl.Ins
	for _, line := range strings.Split(strings.TrimSuffix(text, "\n"), "\n") {
		var x impl.Ins
		if n, _ := fmt.Sscanf(line, "op %d %d %d %d", &x.Op, &x.A, &x.B, &x.To); n == 4 {
			out = append(out, x)
		} else {
			out = append(out, plainLines(line)...)
		}
	}
	return out
}

// plainProgOf writes the program of a machine that is ok as lines, when it has counted how many each state takes.
func plainProgOf(d impl.Dfa) ([]impl.Ins, bool) {
	places, size := []int{}, 0
	for state := range d.Rows {
		places = append(places, size)
		size += 2
		if d.Acc[state] >= 0 {
			size++
		}
		for part, next := range d.Rows[state] {
			if next >= 0 {
				size += len(d.Parts[part])
			}
		}
	}
	if size > 1500 {
		return nil, false
	}
	var text strings.Builder
	for state, row := range d.Rows {
		if d.Acc[state] >= 0 {
			fmt.Fprintln(&text, "mark", d.Acc[state])
		}
		fmt.Fprintln(&text, "get")
		for part, next := range row {
			for _, s := range d.Parts[part] {
				if next >= 0 {
					fmt.Fprintln(&text, "if", s.Lo, s.Hi, places[next])
				}
			}
		}
		fmt.Fprintln(&text, "stop")
	}
	return plainLines(text.String()), true
}

// plainProgAt is for a program that is ok and a place that there is.
func plainProgAt(p []impl.Ins, text string, at int) (rule, to, done int) {
	rule, to = -1, at
	got := text[at:at]
	for pc := 0; ; {
		x := p[pc]
		pc++
		done++
		switch x.Op {
		case 1:
			if got != "" {
				rule, to = x.A, at+len(got)
			}
		case 2:
			if at+len(got) == len(text) {
				return rule, to, done
			}
			got = text[at : at+len(got)+1]
		case 3:
			if b := int(got[len(got)-1]); x.A <= b && b <= x.B {
				pc = x.To
			}
		case 4:
			return rule, to, done
		}
	}
}

func plainProgRun(p []impl.Ins, text string) ([]impl.Token, int) {
	var out []impl.Token
	at := 0
	for at < len(text) {
		rule, to, _ := plainProgAt(p, text, at)
		if rule < 0 {
			break
		}
		out = append(out, token(rule, at, to))
		at = to
	}
	return out, at
}

// wantProgAt asks of a place of a text, or of such as is none.
func wantProgAt(t *testing.T, p []impl.Ins, text string, at, rule, to, done int) {
	t.Helper()
	if gotRule, gotTo, gotDone := impl.ProgAt(p, text, at); gotRule != rule || gotTo != to || gotDone != done {
		t.Fatalf("%.400s%.60q (%d bytes) at %d: rule %d to %d, %d done, not %d to %d, %d done", plainProgText(p), text, len(text), at, gotRule, gotTo, gotDone, rule, to, done)
	}
}

// wantProgRuns holds what a program that is ok does with a text, at each place, against what it plainly does.
func wantProgRuns(t *testing.T, p []impl.Ins, text string) {
	t.Helper()
	for at := range len(text) + 1 {
		rule, to, done := plainProgAt(p, text, at)
		wantProgAt(t, p, text, at, rule, to, done)
	}
	wantProgAt(t, p, text, len(text)+1, -1, len(text)+1, 0)
	wantProgAt(t, p, text, -1, -1, -1, 0)
	want, wantFar := plainProgRun(p, text)
	got, far := impl.ProgRun(p, text)
	if far != wantFar || !slices.Equal(got, want) {
		t.Fatalf("%.400s%.60q (%d bytes): %s to %d, not %s to %d", plainProgText(p), text, len(text), plainTokens(got), far, plainTokens(want), wantFar)
	}
	wantFollow(t, got, far, len(text))
}

// wantProgRead holds what is read of a text against what plainly is, and says whether it is a program.
func wantProgRead(t *testing.T, text string) bool {
	t.Helper()
	want, is := plainProgRead(text)
	p, ok := impl.ProgRead(text)
	if ok != is || !slices.Equal(p, want) {
		t.Fatalf("%.200q (%d bytes): %.200v %t, not %.200v %t", text, len(text), p, ok, want, is)
	}
	return ok
}

// wantProg holds what is told of any instructions against what is plainly so, and says whether they are a program that is ok.
func wantProg(t *testing.T, p []impl.Ins) bool {
	t.Helper()
	ok := plainProgOk(p)
	if got := impl.ProgOk(p); got != ok {
		t.Fatalf("ok: %t, not %t: %.400v", got, ok, p)
	}
	text := plainProgText(p)
	if got := impl.ProgText(p); got != text {
		t.Fatalf("%.400v: %.400q, not %.400q", p, got, text)
	}
	wantProgRead(t, text)
	if !impl.ProgSame(p, slices.Clone(p)) {
		t.Fatalf("%.400v is not the same as a copy", p)
	}
	if !ok {
		wantNoRuns(t, p)
		return false
	}
	if back, is := impl.ProgRead(text); !is || !slices.Equal(back, p) || !impl.ProgSame(back, p) {
		t.Fatalf("%.400q is read as %.400v, %t", text, back, is)
	}
	return true
}

// wantNoRuns asks for each fixed answer of what is no program that is ok.
func wantNoRuns(t *testing.T, p []impl.Ins) {
	t.Helper()
	for _, text := range []string{"", "a", "ab", "\x00\xff", strings.Repeat("a", 200), strings.Repeat("a", 201)} {
		if got, far := impl.ProgRun(p, text); len(got) != 0 || far != 0 {
			t.Fatalf("%.400v: %.20q is cut into %s to %d", p, text, plainTokens(got), far)
		}
		for _, at := range []int{0, 1, len(text), -1, len(text) + 1, math.MaxInt, math.MinInt} {
			wantProgAt(t, p, text, at, -1, at, 0)
		}
	}
}

// wantProgOf holds the program of a machine that is ok against what it plainly is.
func wantProgOf(t *testing.T, d impl.Dfa) []impl.Ins {
	t.Helper()
	want, is := plainProgOf(d)
	p, ok := impl.ProgOf(d)
	if ok != is || !slices.Equal(p, want) {
		t.Fatalf("%.400s%t\n%.400s, not %t\n%.400s", dfaText(d), ok, plainProgText(p), is, plainProgText(want))
	}
	if ok && !wantProg(t, p) {
		t.Fatalf("%.400s is not ok", plainProgText(p))
	}
	return p
}

// wantCutAlike asks that the program of a machine cuts a text as the machine does.
func wantCutAlike(t *testing.T, d impl.Dfa, p []impl.Ins, text string) {
	t.Helper()
	want, wantFar := impl.LexRun(d, text)
	got, far := impl.ProgRun(p, text)
	if far != wantFar || !impl.LexSame(got, want) || !slices.Equal(got, want) {
		t.Fatalf("%.400s%.60q (%d bytes): %s to %d, and the machine %s to %d", dfaText(d), text, len(text), plainTokens(got), far, plainTokens(want), wantFar)
	}
	for _, at := range []int{0, len(text) / 2, len(text) - 1, len(text), len(text) + 1, -1} {
		rule, to := impl.LexAt(d, text, at)
		if gotRule, gotTo, _ := impl.ProgAt(p, text, at); gotRule != rule || gotTo != to {
			t.Fatalf("%.400s%.60q (%d bytes) at %d: rule %d to %d, and the machine %d to %d", dfaText(d), text, len(text), at, gotRule, gotTo, rule, to)
		}
	}
}

func TestProgConstants(t *testing.T) {
	if impl.ProgMark != 1 || impl.ProgGet != 2 || impl.ProgIf != 3 || impl.ProgStop != 4 || impl.ProgMax != 1500 {
		t.Error(impl.ProgMark, impl.ProgGet, impl.ProgIf, impl.ProgStop, impl.ProgMax)
	}
}

func TestProgOfByHand(t *testing.T) {
	for _, c := range []struct{ of, want string }{
		// One state, with a rule and with none.
		{partAll + "0 -1 -1\n", "get\nstop\n"},
		{partAll + "0 3 -1\n", "mark 3\nget\nstop\n"},
		{partAll + "0 -1 0\n", "get\nif 0 255 0\nstop\n"},
		{partAll + "0 0 0\n", "mark 0\nget\nif 0 255 0\nstop\n"},
		{partAll + "0 4 0\n", "mark 4\nget\nif 0 255 0\nstop\n"},

		// Parts of several spans, and such as lead nowhere.
		{partsA + "0 -1 0 0\n", "get\nif 0 96 0\nif 98 255 0\nif 97 97 0\nstop\n"},
		{partsA + "0 -1 -1 0\n", "get\nif 97 97 0\nstop\n"},
		{partsA + "0 -1 0 -1\n", "get\nif 0 96 0\nif 98 255 0\nstop\n"},
		{partsA + "0 1 -1 -1\n", "mark 1\nget\nstop\n"},
		{partsAB + "0 2 0 -1 0\n", "mark 2\nget\nif 0 96 0\nif 99 255 0\nif 98 98 0\nstop\n"},
		{"part 0,2,4-6\npart 1,3,7-255\n0 0 0 -1\n", "mark 0\nget\nif 0 0 0\nif 2 2 0\nif 4 6 0\nstop\n"},
		{"part 0,2,4-6\npart 1,3,7-255\n0 0 -1 0\n", "mark 0\nget\nif 1 1 0\nif 3 3 0\nif 7 255 0\nstop\n"},

		// Several states: it goes to the mark, where there is one, else to the get.
		{partAll + "0 -1 1\n1 0 1\n", "get\nif 0 255 3\nstop\nmark 0\nget\nif 0 255 3\nstop\n"},
		{partAll + "0 0 1\n1 -1 0\n", "mark 0\nget\nif 0 255 4\nstop\nget\nif 0 255 0\nstop\n"},
		{partAll + "0 -1 2\n1 -1 1\n2 1 0\n", "get\nif 0 255 6\nstop\nget\nif 0 255 3\nstop\nmark 1\nget\nif 0 255 0\nstop\n"},
		{partsA + "0 -1 2 1\n1 2 -1 2\n2 -1 1 -1\n", "get\nif 0 96 9\nif 98 255 9\nif 97 97 5\nstop\nmark 2\nget\nif 97 97 9\nstop\nget\nif 0 96 5\nif 98 255 5\nstop\n"},
		// All states are there, also such as are not come to.
		{partAll + "0 -1 -1\n1 4 -1\n2 -1 0\n", "get\nstop\nmark 4\nget\nstop\nget\nif 0 255 0\nstop\n"},
		// No two parts are told as one, though they lead the same ways.
		{partsAB + "0 -1 -1 0 0\n", "get\nif 97 97 0\nif 98 98 0\nstop\n"},
	} {
		p := wantProgOf(t, readDfa(t, c.of))
		if text := impl.ProgText(p); text != c.want {
			t.Errorf("%q: %q, not %q", c.of, text, c.want)
		}
		if back, ok := impl.ProgRead(c.want); !ok || !slices.Equal(back, p) {
			t.Errorf("%q is read as %v, %t", c.want, back, ok)
		}
	}
}

func TestProgOfOkMachines(t *testing.T) {
	for _, d := range okMachines(t) {
		wantProgOf(t, d)
		wantProgOf(t, impl.LeastOf(d))
	}
	for _, states := range []int{1, 2, 39, 40} {
		wantProgOf(t, ringMachine(states))
		wantProgOf(t, chainMachine(states))
	}
}

func TestProgOfAllSmallOnes(t *testing.T) {
	for _, size := range [][2]int{{1, 1}, {1, 2}, {1, 3}, {2, 1}, {2, 2}, {3, 1}} {
		allSmallDfas(size[0], size[1], func(d impl.Dfa) {
			// Where there are several parts each has so many spans that two states have few enough.
			d = impl.Dfa{Parts: fewSpans(len(d.Parts)), Rows: d.Rows, Acc: d.Acc}
			p := wantProgOf(t, d)
			for _, text := range textsOf("ab", 3) {
				wantCutAlike(t, d, p, text)
				wantProgRuns(t, p, text)
			}
		})
	}
}

// fewSpans is parts of which an a and a b are in two, and a c is in one of these.
func fewSpans(parts int) [][]impl.Span {
	switch parts {
	case 1:
		return [][]impl.Span{allBytes}
	case 2:
		return [][]impl.Span{{{Lo: 0, Hi: 97}, {Lo: 99, Hi: 99}}, {{Lo: 98, Hi: 98}, {Lo: 100, Hi: 255}}}
	}
	return [][]impl.Span{{{Lo: 0, Hi: 96}, {Lo: 100, Hi: 255}}, {{Lo: 97, Hi: 97}, {Lo: 99, Hi: 99}}, {{Lo: 98, Hi: 98}}}
}

func TestProgOfSpreadOnes(t *testing.T) {
	var d dice = 89
	met := map[string]int{}
	for range 500 {
		m := spreadDfa(&d, 1+d.upTo(25), 1+d.upTo(5), 1+d.upTo(5))
		p := wantProgOf(t, m)
		if p == nil {
			met["too long"]++
			m = impl.LeastOf(m)
			p = wantProgOf(t, m)
		}
		if p == nil {
			continue
		}
		for range 3 {
			text := spreadText(&d, d.upTo(25))
			wantCutAlike(t, m, p, text)
			wantProgRuns(t, p, text)
			switch got, far := impl.ProgRun(p, text); {
			case len(text) == 0:
				met["of nothing"]++
			case len(got) == 0:
				met["at 0"]++
			case far == len(text):
				met["at the end"]++
			default:
				met["within"]++
			}
		}
	}
	for _, what := range []string{"too long", "of nothing", "at 0", "at the end", "within"} {
		if met[what] < 50 {
			t.Errorf("%s: %d", what, met[what])
		}
	}
}

// sizedMachine has a program of that many instructions, 80 or more: 40 states, of which so many have come to a rule, and each byte is a part.
func sizedMachine(size, accs int) impl.Dfa {
	d := impl.Dfa{Acc: accsBy(40, func(state int) int {
		if state < accs {
			return state % 5
		}
		return -1
	})}
	for b := range 256 {
		d.Parts = append(d.Parts, []impl.Span{{Lo: b, Hi: b}})
	}
	left := size - 80 - accs
	for range 40 {
		row := slices.Repeat([]int{-1}, 256)
		for b := 0; b < 256 && left > 0; b++ {
			row[b] = left % 40
			left--
		}
		d.Rows = append(d.Rows, row)
	}
	return d
}

// combMachine has parts of 128 spans each; so many ways lead to states, and so many states have come to a rule.
func combMachine(states, ways, accs int) impl.Dfa {
	d := impl.Dfa{Acc: accsBy(states, func(state int) int {
		if state >= states-accs {
			return 4
		}
		return -1
	})}
	for part := range 2 {
		d.Parts = append(d.Parts, flagsBy(func(b int) bool { return b%2 == part }).spans())
	}
	for state := range states {
		row := []int{-1, -1}
		for part := range row {
			if ways > 0 {
				row[part] = (state + part) % states
				ways--
			}
		}
		d.Rows = append(d.Rows, row)
	}
	return d
}

func TestProgOf1500InstructionsAndOneMore(t *testing.T) {
	longest := func(d impl.Dfa, size int) {
		t.Helper()
		if !plainDfaOk(d) {
			t.Fatalf("of %d: it is no machine that is ok", size)
		}
		p := wantProgOf(t, d)
		if want := size; size <= 1500 && len(p) != want || size > 1500 && p != nil {
			t.Fatalf("%d instructions, not %d", len(p), want)
		}
		if p != nil {
			for _, text := range []string{"", "\x00", "\x01\x02\x00\x05", "\x00\x00\x00\x00\x00", "abcdefabcdef", strings.Repeat("\x00\x01", 100)} {
				wantCutAlike(t, d, p, text)
			}
		}
	}
	for _, size := range []int{80, 81, 336, 337, 1000, 1498, 1499, 1500, 1501, 1502, 1503, 1600, 3000, 10000} {
		for _, accs := range []int{0, 1, 12, 39, 40} {
			if size >= 80+accs {
				longest(sizedMachine(size, accs), size)
			}
		}
	}
	// All ways of all states.
	longest(sizedMachine(80+40*256, 0), 80+40*256)
	longest(sizedMachine(80+40*257, 40), 80+40*257)
	// One rule that was come to is one more.
	for accs := range 40 {
		longest(combMachine(40, 11, accs), 1488+accs)
	}
	for ways := range 80 {
		longest(combMachine(40, ways, 3), 83+ways*128)
	}
	longest(combMachine(5, 10, 5), 1295)
	longest(combMachine(6, 11, 6), 1426)
	longest(combMachine(6, 12, 0), 1548)
	// 256 parts of one byte each, as rules have them.
	d := machineOf(t, rulesBy(eachByteApart()))
	longest(d, len(plainSized(d)))
}

// plainSized has an instruction for each that there would be.
func plainSized(d impl.Dfa) []struct{} {
	var out []struct{}
	for state, row := range d.Rows {
		out = append(out, struct{}{}, struct{}{})
		if d.Acc[state] != -1 {
			out = append(out, struct{}{})
		}
		for part, next := range row {
			if next != -1 {
				out = append(out, make([]struct{}, len(d.Parts[part]))...)
			}
		}
	}
	return out
}

func TestProgOfWrongMachines(t *testing.T) {
	none := func(what string, d impl.Dfa) {
		t.Helper()
		if p, ok := impl.ProgOf(d); ok || len(p) != 0 {
			t.Errorf("%s: %v, %t", what, p, ok)
		}
	}
	one := impl.Dfa{Parts: [][]impl.Span{{{Lo: 0, Hi: 255}}}, Rows: [][]int{{0}}, Acc: []int{0}}
	for _, base := range []impl.Dfa{handMachine(), one, machineOf(t, fewRules(2))} {
		for what, d := range wrongNumbers(base) {
			none(what, d)
		}
		for what, d := range wrongMachines(base) {
			if !plainDfaOk(d) {
				none(what, d)
			}
		}
	}
	none("nothing", impl.Dfa{})
	none("one state, no parts", impl.Dfa{Rows: [][]int{nil}, Acc: []int{0}})
	for _, many := range []int{0, 41, 42, 256} {
		none(fmt.Sprint(many, " states"), ringMachine(many))
	}
}

func TestProgOkByHand(t *testing.T) {
	for _, c := range []struct {
		text string
		want bool
	}{
		{"get\nstop\n", true},
		{"mark 0\nget\nstop\n", true},
		{"get\nif 97 97 0\nstop\n", true},
		{"mark 4\nget\nif 0 255 0\nstop\n", true},
		{"get\nstop\nstop\n", true},
		{"get\nget\nstop\n", true},
		{"get\nstop\nget\nstop\n", true},
		{"get\nstop\nmark 1\nget\nstop\n", true},
		{"get\nstop\nif 0 0 0\nstop\n", true},
		{"get\nmark 1\nget\nstop\n", true},
		{"get\nif 1 2 2\nmark 1\nget\nif 1 2 3\nstop\n", true},
		// The get that is right behind a mark is a door too.
		{"mark 0\nget\nif 97 97 1\nstop\n", true},

		// What begins it, and what ends it.
		{"stop\n", false},
		{"get\n", false},
		{"mark 0\n", false},
		{"if 0 0 0\n", false},
		{"stop\nget\nstop\n", false},
		{"if 0 255 1\nget\nstop\n", false},
		{"stop\nmark 0\nget\nstop\n", false},
		{"get\nif 0 0 0\n", false},
		{"get\nstop\nget\n", false},
		{"get\nstop\nmark 0\nget\n", false},
		{"get\nstop\nmark 0\n", false},
		{"get\nstop\nif 0 0 0\n", false},
		{"get\nget\n", false},

		// A mark that is no door.
		{"mark 0\nstop\n", false},
		{"mark 0\nmark 0\nget\nstop\n", false},
		{"mark 0\nif 0 0 0\nget\nstop\n", false},
		{"mark 0\nmark 0\nstop\n", false},
		{"get\nmark 0\nstop\n", false},
		{"get\nmark 0\nmark 0\nget\nstop\n", false},
		{"get\nmark 0\nif 0 0 0\nget\nstop\n", false},
		{"get\nstop\nmark 0\nstop\n", false},

		// An if to what is no door.
		{"get\nif 0 0 1\nstop\n", false},
		{"get\nif 0 0 2\nstop\n", false},
		{"get\nif 0 0 3\nstop\n", false},
		{"get\nif 0 0 4\nstop\n", false},
		{"get\nif 0 0 -1\nstop\n", false},
		{"get\nif 0 0 2\nmark 0\nstop\n", false},
		{"get\nif 0 0 2\nif 0 0 0\nstop\nget\nstop\n", false},
		{"get\nif 0 0 3\nstop\nmark 0\nmark 0\nget\nstop\n", false},
		{"get\nif 0 0 4\nstop\nmark 0\nget\nstop\n", true},
		{"get\nif 0 0 3\nstop\nmark 0\nget\nstop\n", true},
		{"get\nif 0 0 5\nstop\nmark 0\nget\nstop\n", false},

		// Of no Op.
		{"op 0 0 0 0\nget\nstop\n", false},
		{"get\nop 0 0 0 0\nstop\n", false},
		{"get\nop 5 0 0 0\nstop\n", false},
		{"get\nop -1 0 0 0\nstop\n", false},
		{"get\nstop\nop 0 0 0 0\n", false},
	} {
		p := handProg(c.text)
		if ok := wantProg(t, p); ok != c.want {
			t.Errorf("%q: %t", c.text, ok)
		}
	}
}

func TestProgOkOfNoInstruction(t *testing.T) {
	wantProg(t, nil)
	wantProg(t, []impl.Ins{})
	wantProg(t, handProg("get\nstop\n")[:0])
	if impl.ProgOk(nil) || impl.ProgOk([]impl.Ins{}) || impl.ProgText(nil) != "" {
		t.Error("none")
	}
}

// manyOps is each Op, such as are none, and such as would be one in fewer bits.
func manyOps() []int {
	return []int{-1, 0, 1, 2, 3, 4, 5, 6, -2, -4, 255, 256, 257, 258, 259, 260, 1<<32 + 1, 1<<32 + 2, 1<<32 + 3, 1<<32 + 4, math.MaxInt, math.MinInt, math.MinInt + 2}
}

func TestProgOkOfEachOp(t *testing.T) {
	for _, base := range []string{"get\nstop\n", "mark 2\nget\nif 97 98 0\nstop\nget\nif 0 255 4\nstop\n"} {
		for place := range handProg(base) {
			for _, op := range manyOps() {
				p := handProg(base)
				p[place].Op = op
				wantProg(t, p)
				wantProg(t, slices.Insert(handProg(base), place, ins(op, 0, 0, 0)))
				wantProg(t, slices.Insert(handProg(base), place+1, ins(op, 0, 0, 0)))
			}
		}
	}
}

// What an instruction has not is 0: else it would not be read again from its text.
func TestProgOkOfWhatAnInstructionHasNot(t *testing.T) {
	base := handProg("mark 2\nget\nif 97 98 0\nstop\n")
	for _, n := range []int{-1, 0, 1, 2, 4, 97, 255, 256, 1 << 32, math.MaxInt, math.MinInt} {
		for place, has := range []string{"A", "", "A B To", ""} {
			for field, change := range insFields() {
				if strings.Contains(has, field) {
					continue
				}
				p := slices.Clone(base)
				change(&p[place], n)
				if ok := wantProg(t, p); ok != (n == 0) {
					t.Errorf("%s of instruction %d is %d: %t", field, place, n, ok)
				}
			}
		}
	}
}

func insFields() map[string]func(x *impl.Ins, n int) {
	return map[string]func(x *impl.Ins, n int){
		"A":  func(x *impl.Ins, n int) { x.A = n },
		"B":  func(x *impl.Ins, n int) { x.B = n },
		"To": func(x *impl.Ins, n int) { x.To = n },
	}
}

func TestProgOkOfNumbersAtTheEdges(t *testing.T) {
	edges := []int{-2, -1, 0, 1, 2, 3, 4, 5, 6, 97, 254, 255, 256, 257, 1 << 32, 1<<32 + 1, -1 << 32, math.MaxInt, math.MaxInt - 1, math.MinInt, math.MinInt + 1}
	for _, a := range edges {
		for _, ahead := range []string{"", "get\nstop\n"} {
			p := handProg(fmt.Sprintf("%smark %d\nget\nif 0 1 0\nstop\n", ahead, a))
			if ok := wantProg(t, p); ok != (a >= 0 && a <= 4) {
				t.Errorf("mark %d: %t", a, ok)
			}
		}
		for _, b := range edges {
			p := handProg(fmt.Sprintf("get\nif 7 9 0\nif %d %d 0\nstop\n", a, b))
			if ok := wantProg(t, p); ok != (a >= 0 && a <= b && b <= 255) {
				t.Errorf("if %d %d: %t", a, b, ok)
			}
		}
		p := handProg(fmt.Sprintf("get\nif 7 9 %d\nstop\nmark 0\nget\nstop\n", a))
		if ok := wantProg(t, p); ok != (a == 0 || a == 3 || a == 4) {
			t.Errorf("to %d: %t", a, ok)
		}
	}
}

// sizedProg is ok but for its size, if that is 2 or more.
func sizedProg(size int) []impl.Ins {
	return slices.Concat([]impl.Ins{getIns}, slices.Repeat([]impl.Ins{ifIns(97, 97, 0)}, size-2), []impl.Ins{stopIns})
}

func TestProgOkOf1500InstructionsAndOneMore(t *testing.T) {
	for _, size := range []int{2, 3, 255, 256, 257, 1498, 1499, 1500, 1501, 1502, 3000, 1500 + 1<<16, 1 << 20} {
		far := ifIns(97, 97, size-2)
		for what, p := range map[string][]impl.Ins{
			"ifs":              sizedProg(size),
			"gets":             append(slices.Repeat([]impl.Ins{getIns}, size-1), stopIns),
			"stops":            append([]impl.Ins{getIns}, slices.Repeat([]impl.Ins{stopIns}, size-1)...),
			"to the last door": slices.Concat([]impl.Ins{getIns}, slices.Repeat([]impl.Ins{far}, max(size-3, 0)), []impl.Ins{getIns, stopIns}),
		} {
			if what == "to the last door" && size < 3 {
				continue
			}
			if ok := impl.ProgOk(p); ok != (size <= 1500) {
				t.Errorf("%d %s: %t", size, what, ok)
			}
			if size < 10000 {
				wantProg(t, p)
			}
		}
	}
}

// All programs of few instructions, and what those do that are ok. The rule of a mark tells where it stands.
func TestProgOfAllFewInstructions(t *testing.T) {
	met := 0
	for size := 1; size <= 6; size++ {
		list := []impl.Ins{{Op: 1}, getIns, stopIns}
		for to := range size {
			list = append(list, ifIns(97, 97, to))
		}
		if size < 5 {
			list = append(list, ifIns(97, 97, size), ifIns(97, 97, -1), impl.Ins{}, ins(5, 0, 0, 0), markIns(-1), markIns(5))
		}
		p := make([]impl.Ins, size)
		var each func(place int)
		each = func(place int) {
			if place == size {
				met += wantFew(t, p)
				return
			}
			for _, x := range list {
				if x.Op == 1 && x.A == 0 {
					x.A = place % 5
				}
				p[place] = x
				each(place + 1)
			}
		}
		each(0)
	}
	if met < 400 {
		t.Errorf("only %d are ok", met)
	}
}

// wantFew is 1, if it is a program that is ok.
func wantFew(t *testing.T, p []impl.Ins) int {
	t.Helper()
	is := plainProgOk(p)
	if impl.ProgOk(p) != is {
		t.Fatalf("%v: %t", p, !is)
	}
	if !is {
		return 0
	}
	wantProg(t, p)
	for _, text := range []string{"", "a", "b", "aa", "ab", "ba", "aab", "aba", "abaab", "bbaba"} {
		wantProgRuns(t, p, text)
	}
	return 1
}

// spreadProg is a program that is ok, of doors and of what is behind them: no machine has such.
func spreadProg(d *dice) []impl.Ins {
	var p []impl.Ins
	for range 1 + d.upTo(6) {
		if d.upTo(2) > 0 {
			p = append(p, markIns(d.upTo(5)))
		}
		p = append(p, getIns)
		for range d.upTo(5) {
			a := []int{0, 1, 2, 3, 4, 97, 98, 255}[d.upTo(8)]
			p = append(p, ifIns(a, a+d.upTo(min(4, 256-a)), 0))
		}
		if d.upTo(3) == 0 {
			p = append(p, stopIns)
		}
	}
	p = append(p, stopIns)
	var doors []int
	for place := range p {
		if plainDoors(p)[place] {
			doors = append(doors, place)
		}
	}
	for place := range p {
		if p[place].Op == 3 {
			p[place].To = doors[d.upTo(len(doors))]
		}
	}
	return p
}

func TestProgOfSpreadInstructions(t *testing.T) {
	var d dice = 97
	cut, ends := 0, 0
	for range 1500 {
		p := spreadProg(&d)
		if !wantProg(t, p) {
			t.Fatalf("%v is not ok", p)
		}
		for range 3 {
			text := spreadText(&d, d.upTo(30))
			wantProgRuns(t, p, text)
			if got, far := impl.ProgRun(p, text); len(got) > 1 {
				cut++
				if far == len(text) {
					ends++
				}
			}
		}
	}
	if cut < 500 || ends < 100 {
		t.Errorf("%d are cut, %d to the end", cut, ends)
	}
}

// A little changed, a program is ok just if it is plainly so.
func TestProgOkOfChangedOnes(t *testing.T) {
	var d dice = 101
	is, not := 0, 0
	for range 2500 {
		p := spreadProg(&d)
		for range 1 + d.upTo(2) {
			place := d.upTo(len(p))
			switch n := 1 - 2*d.upTo(2); d.upTo(7) {
			case 0:
				p[place].Op += n
			case 1:
				p[place].A += n
			case 2:
				p[place].B += n
			case 3:
				p[place].To += n
			case 4:
				p = slices.Delete(p, place, place+1)
			case 5:
				p = slices.Insert(p, place, p[place])
			default:
				p[place] = p[d.upTo(len(p))]
			}
			if len(p) == 0 {
				break
			}
		}
		if !wantProg(t, p) {
			not++
			continue
		}
		is++
		wantProgRuns(t, p, spreadText(&d, d.upTo(12)))
	}
	if is < 300 || not < 1000 {
		t.Errorf("%d are ok, %d are not", is, not)
	}
}

func TestProgText(t *testing.T) {
	for _, c := range []struct {
		p    []impl.Ins
		want string
	}{
		{nil, ""},
		{[]impl.Ins{}, ""},
		{[]impl.Ins{{}}, "none\n"},
		{[]impl.Ins{markIns(0)}, "mark 0\n"},
		{[]impl.Ins{getIns}, "get\n"},
		{[]impl.Ins{ifIns(1, 2, 3)}, "if 1 2 3\n"},
		{[]impl.Ins{stopIns}, "stop\n"},
		{[]impl.Ins{stopIns, ifIns(0, 255, 1499), getIns, markIns(4)}, "stop\nif 0 255 1499\nget\nmark 4\n"},
		{[]impl.Ins{ins(5, 1, 2, 3), ins(-1, 1, 2, 3), ins(0, 1, 2, 3)}, "none\nnone\nnone\n"},
		{[]impl.Ins{ins(1, -7, 8, 9), ins(2, -7, 8, 9), ins(3, -7, -80, -900), ins(4, 7, 8, 9)}, "mark -7\nget\nif -7 -80 -900\nstop\n"},
		{[]impl.Ins{markIns(math.MinInt64), ifIns(math.MaxInt64, math.MinInt64, math.MaxInt64)}, "mark -9223372036854775808\nif 9223372036854775807 -9223372036854775808 9223372036854775807\n"},
		{slices.Repeat([]impl.Ins{getIns}, 3000), strings.Repeat("get\n", 3000)},
	} {
		if text := impl.ProgText(c.p); text != c.want {
			t.Errorf("%.100q, not %.100q", text, c.want)
		}
	}
	for _, op := range manyOps() {
		for _, n := range []int{0, 1, -1, 97, -256, math.MinInt} {
			wantProg(t, []impl.Ins{ins(op, n, n, n), getIns, ins(op, n, 0, 0)})
		}
	}
}

func TestProgReadByHand(t *testing.T) {
	whole := "mark 0\nget\nif 97 98 0\nstop\n"
	if !wantProgRead(t, whole) {
		t.Fatalf("%q is not read", whole)
	}
	for _, wrong := range []string{
		"", "\n", "\n\n", " ", "\x00", "get", "stop", "none\n", "mark\n", "if\n", "get\nnone\nstop\n", "get\nstop", "get\nstop\n\n", "\nget\nstop\n", "get\n\nstop\n",
		"get\r\nstop\r\n", "get\rstop\n", "get stop\n", "get\tstop\n", "getstop\n", "get\nstop\nget", "get\nstop\nstop",
		// More or fewer numbers than there are.
		"get 0\nstop\n", "get 1\nstop\n", "get \nstop\n", "get\nstop 0\n", "get\nstop \n", "mark\nget\nstop\n", "mark \nget\nstop\n", "mark 0 0\nget\nstop\n", "mark 0 \nget\nstop\n",
		"get\nif\nstop\n", "get\nif \nstop\n", "get\nif 1\nstop\n", "get\nif 1 2\nstop\n", "get\nif 1 2 \nstop\n", "get\nif 1 2 0 0\nstop\n", "get\nif 1 2 0 \nstop\n", "get\nif  1 2 0\nstop\n", "get\nif 1  2 0\nstop\n", "get\nif 1 2  0\nstop\n", "get\nif\t1 2 0\nstop\n", "get\nif 1,2,0\nstop\n", "get\nif 1-2 0\nstop\n", "get\nif 1 : 0\nstop\n", "get\nif 1 2: 0\nstop\n", "get\nif 1 2/ 0\nstop\n", "get\nif 1 2 /\nstop\n", "get\nif1 2 0\nstop\n",
		"get\nif 1\n2 0\nstop\n", "get\nif 1 2\n0\nstop\n", "mark\n0\nget\nstop\n",
		" get\nstop\n", "get\n stop\n", "get\n if 1 2 0\nstop\n",
		// Numbers that are written otherwise, or are too great.
		"mark 00\nget\nstop\n", "mark 01\nget\nstop\n", "mark +1\nget\nstop\n", "mark -0\nget\nstop\n", "mark -1\nget\nstop\n", "mark 5\nget\nstop\n", "mark 1.0\nget\nstop\n", "mark 0x1\nget\nstop\n", "mark 1e0\nget\nstop\n", "mark 1_0\nget\nstop\n", "mark a\nget\nstop\n",
		"mark 18446744073709551616\nget\nstop\n", "mark 18446744073709551617\nget\nstop\n", "mark 4294967296\nget\nstop\n", "mark 256\nget\nstop\n", "mark 1" + strings.Repeat("0", 64) + "\nget\nstop\n", "mark " + strings.Repeat("0", 64) + "\nget\nstop\n",
		"get\nif 01 2 0\nstop\n", "get\nif 1 02 0\nstop\n", "get\nif 1 2 00\nstop\n", "get\nif +1 2 0\nstop\n", "get\nif 1 +2 0\nstop\n", "get\nif 1 2 +0\nstop\n", "get\nif -0 2 0\nstop\n", "get\nif 1 2 -0\nstop\n", "get\nif 1 256 0\nstop\n", "get\nif 256 256 0\nstop\n", "get\nif 2 1 0\nstop\n", "get\nif -1 1 0\nstop\n",
		"get\nif 1 2 18446744073709551616\nstop\n", "get\nif 18446744073709551616 18446744073709551617 0\nstop\n", "get\nif 1 2 4294967296\nstop\n",
		// Other letters, and digits that are none of these.
		"Get\nstop\n", "GET\nSTOP\n", "ge\nstop\n", "gets\nstop\n", "get\nstops\n", "get\nsto\n", "marks 0\nget\nstop\n", "mar 0\nget\nstop\n", "get\nif1 2 0\nstop\n", "get\ni 1 2 0\nstop\n",
		"mark ٠\nget\nstop\n", "mark ０\nget\nstop\n", "mark ¹\nget\nstop\n", "mark\u00a00\nget\nstop\n", "gеt\nstop\n", "\ufeffget\nstop\n", "mark \xb0\nget\nstop\n", "mark 0\xff\nget\nstop\n", "get\xff\nstop\n", "\xffget\nstop\n", "get\n\xffstop\n", "get\nstop\n\xff", "get\nstop\xff\n", "get\nstop\x00\n", "get\x00\nstop\n", "get\nstop\n\x00", "get\nstop\u0085", "get\u2028stop\n", "get\nstop\xc0\x8a", "ge\xf4t\nstop\n",
		// Programs that are not ok.
		"stop\n", "get\n", "mark 0\nstop\n", "mark 0\nmark 0\nget\nstop\n", "if 0 0 1\nget\nstop\n", "get\nif 97 97 1\nstop\n", "get\nif 97 97 2\nstop\n", "get\nif 97 97 3\nstop\n", "get\nmark 0\nstop\n", "stop\nget\nstop\n", "get\nstop\nmark 0\n", "get\nstop\nget\n",
	} {
		if p, ok := impl.ProgRead(wrong); ok || len(p) != 0 {
			t.Errorf("%q: %v, %t", wrong, p, ok)
		}
		if wantProgRead(t, wrong) {
			t.Errorf("%q is plainly read", wrong)
		}
	}
	for _, right := range []string{"get\nstop\n", "mark 4\nget\nstop\n", "get\nif 0 255 0\nstop\n", "get\nif 0 0 0\nif 255 255 0\nif 100 200 0\nif 10 20 0\nstop\n", "get\nget\nget\nget\nget\nget\nget\nget\nget\nget\nget\nif 9 10 10\nstop\n"} {
		if !wantProgRead(t, right) {
			t.Errorf("%q is not read", right)
		}
	}
}

// Each text of few pieces is read just if a program that is ok is so written.
func TestProgReadOfAllFewPieces(t *testing.T) {
	for _, c := range []struct {
		pieces []string
		most   int
		least  int
	}{
		{[]string{"get", "stop", " ", "0", "none", "\n"}, 7, 2},
		{[]string{"mark", " ", "0", "1", "\n", "get\n", "stop\n"}, 6, 20},
		{[]string{"get\n", "if", " 0", " 1", "0", "\n", "stop\n"}, 7, 20},
		{[]string{"get\n", "if 1 ", "2 ", "0", "1", "\n", "stop\n", "mark 1\n"}, 6, 20},
	} {
		read := 0
		texts := []string{""}
		for range c.most {
			var next []string
			for _, text := range texts {
				for _, piece := range c.pieces {
					next = append(next, text+piece)
				}
			}
			for _, text := range next {
				if wantProgRead(t, text) {
					read++
				}
			}
			// What begins so is not read, however it goes on.
			texts = slices.DeleteFunc(next, func(text string) bool {
				return !strings.HasPrefix(text, "get") && !strings.HasPrefix(text, "mark")
			})
		}
		if read < c.least {
			t.Errorf("%q: only %d are read", c.pieces, read)
		}
	}
}

// A text that has a byte more, a byte less or another byte is read just if it is that of another program.
func TestProgReadOfChangedTexts(t *testing.T) {
	var d dice = 103
	for range 40 {
		text := impl.ProgText(spreadProg(&d))
		for at := range len(text) + 1 {
			for _, piece := range []string{" ", "\n", "0", "1", "-", "+", "/", ":", "a", "{", "get\n", "\xff"} {
				wantProgRead(t, text[:at]+piece+text[at:])
				if at < len(text) {
					wantProgRead(t, text[:at]+piece+text[at+1:])
				}
			}
			wantProgRead(t, text[:at])
			wantProgRead(t, text[at:])
			if at < len(text) {
				wantProgRead(t, text[:at]+text[at+1:])
			}
		}
		if !wantProgRead(t, text) || !wantProgRead(t, text+text) {
			t.Errorf("%q is not read", text)
		}
	}
}

// No program that is ok has a text of so many bytes: the greatest one has fewer than 24000.
func TestProgReadOfLongTexts(t *testing.T) {
	far := func(size int) []impl.Ins {
		return slices.Concat([]impl.Ins{getIns}, slices.Repeat([]impl.Ins{ifIns(100, 255, size-2)}, size-3), []impl.Ins{getIns, stopIns})
	}
	longest := plainProgText(far(1500))
	if len(longest) < 23900 || !wantProgRead(t, longest) {
		t.Errorf("%d bytes are not read", len(longest))
	}
	if wantProgRead(t, plainProgText(far(1501))) {
		t.Error("1501 instructions are read")
	}
	for _, size := range []int{39999, 40000, 40001, 40002, 80000, 1 << 20} {
		for _, line := range []string{"get\n", "\n", "stop\n", "if 100 255 0\n", "mark 0\nget\n", "0", "\xff", " ", "get\nstop\n"} {
			text := strings.Repeat(line, size/len(line)+1)[:size]
			tail := "get\nstop\n"
			for _, whole := range []string{text, text[:size-len(tail)] + tail, tail + text[len(tail):], "mark " + text[5:]} {
				if p, ok := impl.ProgRead(whole); ok || len(p) != 0 {
					t.Errorf("%d bytes of %q are read as %d instructions", len(whole), line, len(p))
				}
			}
		}
	}
	for _, zeros := range []int{0, 1, 2, 100, 39900, 39980} {
		for _, text := range []string{"mark " + strings.Repeat("0", zeros) + "1\nget\nstop\n", "mark 1" + strings.Repeat("0", zeros) + "\nget\nstop\n", "get\nif 1 2" + strings.Repeat("0", zeros) + " 0\nstop\n"} {
			wantProgRead(t, text)
		}
	}
}

// What is read of the text of a machine does what the machine does.
func TestProgReadOfTextsThatAreWritten(t *testing.T) {
	for _, d := range okMachines(t) {
		for _, m := range []impl.Dfa{d, impl.LeastOf(d)} {
			p, ok := impl.ProgOf(m)
			if !ok {
				continue
			}
			back, ok := impl.ProgRead(impl.ProgText(p))
			if !ok || !slices.Equal(back, p) {
				t.Fatalf("%.400s is read as %.400v, %t", plainProgText(p), back, ok)
			}
			for _, text := range []string{"", "ab", "aabbab", "if ifx 42?"} {
				wantCutAlike(t, m, back, text)
			}
		}
	}
}

const (
	loopOfA = "mark 3\nget\nif 97 97 0\nstop\n"
	aThenB  = "mark 0\nget\nif 97 97 4\nstop\nmark 1\nget\nif 98 98 8\nstop\nmark 2\nget\nstop\n"
	through = "get\nif 97 97 3\nif 98 98 6\nget\nif 99 99 6\nif 100 100 0\nmark 4\nget\nmark 2\nget\nstop\n"
	noMarks = "get\nif 0 255 0\nstop\n"
)

func TestProgAtByHand(t *testing.T) {
	for _, c := range []struct {
		of, text           string
		at, rule, to, done int
	}{
		// The mark ahead of the first byte is done, and tells nothing.
		{loopOfA, "", 0, -1, 0, 2},
		{loopOfA, "b", 0, -1, 0, 4},
		{loopOfA, "a", 0, 3, 1, 5},
		{loopOfA, "aa", 0, 3, 2, 8},
		{loopOfA, "aaa", 0, 3, 3, 11},
		{loopOfA, "aaa", 1, 3, 3, 8},
		{loopOfA, "aaa", 2, 3, 3, 5},
		{loopOfA, "aaa", 3, -1, 3, 2},
		{loopOfA, "aaa", 4, -1, 4, 0},
		{loopOfA, "aaa", -1, -1, -1, 0},
		{loopOfA, "aaab", 0, 3, 3, 13},
		{loopOfA, "aaab", 3, -1, 3, 4},
		{loopOfA, "baab", 1, 3, 3, 10},
		{loopOfA, "ab", 0, 3, 1, 7},
		{loopOfA, "ab", 1, -1, 1, 4},
		{loopOfA, "ab", 2, -1, 2, 2},

		{aThenB, "", 0, -1, 0, 2},
		{aThenB, "a", 0, 1, 1, 5},
		{aThenB, "ab", 0, 2, 2, 8},
		{aThenB, "abb", 0, 2, 2, 9},
		{aThenB, "aba", 0, 2, 2, 9},
		{aThenB, "aa", 0, 1, 1, 7},
		{aThenB, "b", 0, -1, 0, 4},
		{aThenB, "xab", 1, 2, 3, 8},
		{aThenB, "xab", 2, -1, 2, 4},

		// It goes on over doors, a byte further behind each.
		{through, "", 0, -1, 0, 1},
		{through, "x", 0, -1, 0, 4},
		{through, "a", 0, -1, 0, 3},
		{through, "b", 0, 4, 1, 5},
		{through, "bx", 0, 2, 2, 7},
		{through, "bxy", 0, 2, 2, 8},
		{through, "xc", 0, 4, 2, 7},
		{through, "xd", 0, -1, 0, 7},
		{through, "xe", 0, 4, 2, 8},
		{through, "xex", 0, 2, 3, 10},
		{through, "xexx", 0, 2, 3, 11},
		{through, "ac", 0, 4, 2, 6},
		{through, "adb", 0, 4, 3, 10},
		{through, "adadadb", 0, 4, 7, 20},

		{noMarks, "", 0, -1, 0, 1},
		{noMarks, "abc", 0, -1, 0, 7},
		{noMarks, "abc", 2, -1, 2, 3},
		{noMarks, "abc", 3, -1, 3, 1},

		// The first if that has the byte counts; of none the next door.
		{"get\nif 97 98 4\nif 97 97 7\nstop\nmark 0\nget\nstop\nmark 1\nget\nstop\n", "a", 0, 0, 1, 4},
		{"get\nif 98 98 4\nif 97 97 7\nstop\nmark 0\nget\nstop\nmark 1\nget\nstop\n", "a", 0, 1, 1, 5},
		// To the get that is right behind a mark it goes without it.
		{"mark 0\nget\nif 97 97 1\nif 98 98 0\nstop\n", "a", 0, -1, 0, 4},
		{"mark 0\nget\nif 97 97 1\nif 98 98 0\nstop\n", "ab", 0, 0, 2, 8},
		{"mark 0\nget\nif 97 97 1\nif 98 98 0\nstop\n", "aba", 0, 0, 2, 10},
		{"mark 0\nget\nif 97 97 1\nif 98 98 0\nstop\n", "bab", 0, 0, 3, 12},
		{"mark 0\nget\nif 97 97 1\nif 98 98 0\nstop\n", "ba", 0, 0, 1, 8},
		// Bytes at the edges.
		{"get\nif 0 0 4\nif 255 255 4\nstop\nmark 4\nget\nstop\n", "\x00", 0, 4, 1, 4},
		{"get\nif 0 0 4\nif 255 255 4\nstop\nmark 4\nget\nstop\n", "\xff", 0, 4, 1, 5},
		{"get\nif 0 0 4\nif 255 255 4\nstop\nmark 4\nget\nstop\n", "\x80", 0, -1, 0, 4},
		{"get\nif 128 191 3\nstop\nmark 0\nget\nif 195 195 3\nstop\n", "é", 1, 0, 2, 4},
		{"get\nif 195 195 3\nstop\nget\nif 169 169 6\nstop\nmark 0\nget\nstop\n", "é", 0, 0, 2, 6},
		{"get\nstop\n", "a", 0, -1, 0, 2},
		{"get\nstop\nmark 0\nget\nstop\n", "a", 0, -1, 0, 2},
		{"mark 2\nget\nstop\n", "a", 0, -1, 0, 3},
	} {
		p := handProg(c.of)
		if !wantProg(t, p) {
			t.Fatalf("%q is not ok", c.of)
		}
		wantProgAt(t, p, c.text, c.at, c.rule, c.to, c.done)
		wantProgRuns(t, p, c.text)
	}
}

func TestProgAtPlacesThatAreNone(t *testing.T) {
	for _, of := range []string{loopOfA, aThenB, through, noMarks} {
		p := handProg(of)
		for _, text := range []string{"", "a", "ab", strings.Repeat("a", 20), strings.Repeat("a", 199), strings.Repeat("a", 200)} {
			places := append(oddPlaces(), len(text)+1, len(text)+2, 2*len(text)+1, -len(text)-1, 200, 201, 202, 1<<32+len(text), -1<<32)
			for _, at := range places {
				if at < 0 || at > len(text) {
					wantProgAt(t, p, text, at, -1, at, 0)
				}
			}
			wantProgRuns(t, p, text)
		}
	}
}

func TestProgOf200BytesAndOneMore(t *testing.T) {
	loop, all := handProg(loopOfA), handProg("mark 1\nget\nif 0 255 0\nstop\n")
	one := handProg("get\nif 97 97 3\nstop\nmark 2\nget\nstop\n")
	for _, size := range []int{0, 1, 198, 199, 200} {
		text := strings.Repeat("a", size)
		for _, p := range [][]impl.Ins{loop, all, one} {
			wantProgRuns(t, p, text)
		}
		wantProgAt(t, loop, text, size, -1, size, 2)
		if size == 0 {
			continue
		}
		wantProgAt(t, loop, text, 0, 3, size, 3*size+2)
		if got, far := impl.ProgRun(one, text); len(got) != size || far != size {
			t.Errorf("%d bytes: %d tokens, to %d", size, len(got), far)
		}
		// The last byte counts as all others do.
		for _, last := range []string{"b", "\x00", "\xff"} {
			text := text[1:] + last
			wantProgRuns(t, one, text)
			wantProgRuns(t, loop, text)
			if got, far := impl.ProgRun(one, text); len(got) != size-1 || far != size-1 {
				t.Errorf("%d bytes: %d tokens, to %d", size, len(got), far)
			}
		}
	}
	for _, size := range []int{201, 202, 255, 256, 257, 400, 456, 1<<16 + 1, 1 << 20} {
		text := strings.Repeat("a", size)
		for _, p := range [][]impl.Ins{loop, all, one} {
			got, far := impl.ProgRun(p, text)
			wantLexed(t, fmt.Sprint(size, " bytes"), got, far, "", 0)
			for _, at := range append(oddPlaces(), 0, 1, 2, 199, 200, 201, size-1, size, size+1, size-200) {
				wantProgAt(t, p, text, at, -1, at, 0)
			}
		}
	}
}

// Also where each byte takes all instructions, and each token is looked for to the end of the text, it ends, and soon.
func TestProgOfTheLongestProgramEnds(t *testing.T) {
	// Behind the first byte it is marked once, and never again.
	p := slices.Concat(handProg("get\nif 97 97 3\nstop\nmark 0\nget\n"), slices.Repeat([]impl.Ins{ifIns(98, 98, 0)}, 1500-7), []impl.Ins{ifIns(97, 97, 4), stopIns})
	if !wantProg(t, p) || len(p) != 1500 {
		t.Fatalf("%d instructions", len(p))
	}
	text := strings.Repeat("a", 200)
	wantProgAt(t, p, text, 0, 0, 1, 3+200+199*1494)
	got, far := impl.ProgRun(p, text)
	if len(got) != 200 || far != 200 {
		t.Errorf("%d tokens, to %d", len(got), far)
	}
	wantProgRuns(t, p, text[:30])
}

func TestProgRunByHand(t *testing.T) {
	for _, c := range []struct {
		of, text, want string
		far            int
	}{
		// Of nothing, to the end, none at 0, and within.
		{loopOfA, "", "", 0},
		{loopOfA, "a", "3:0-1", 1},
		{loopOfA, "aaaa", "3:0-4", 4},
		{loopOfA, "b", "", 0},
		{loopOfA, "baa", "", 0},
		{loopOfA, "aab", "3:0-2", 2},
		{loopOfA, "aabaa", "3:0-2", 2},
		{aThenB, "", "", 0},
		{aThenB, "aab", "1:0-1 2:1-3", 3},
		{aThenB, "abab", "2:0-2 2:2-4", 4},
		{aThenB, "abaaab", "2:0-2 1:2-3 1:3-4 2:4-6", 6},
		{aThenB, "abb", "2:0-2", 2},
		{aThenB, "ba", "", 0},
		{aThenB, "aaab\x00", "1:0-1 1:1-2 2:2-4", 4},
		{through, "bx", "2:0-2", 2},
		{through, "bxb", "2:0-2 4:2-3", 3},
		{through, "adbxacxexx", "2:0-4 2:4-7 2:7-10", 10},
		{through, "bxad", "2:0-2", 2},
		{noMarks, "", "", 0},
		{noMarks, "abc", "", 0},
		{"mark 2\nget\nstop\n", "a", "", 0},
		// It looks further and comes back to what was marked.
		{"get\nif 97 97 3\nstop\nmark 0\nget\nif 98 98 7\nstop\nget\nif 98 98 7\nif 99 99 11\nstop\nmark 1\nget\nstop\n", "abbbabcabca", "0:0-1", 1},
		{"get\nif 97 97 3\nstop\nmark 0\nget\nif 98 98 7\nstop\nget\nif 98 98 7\nif 99 99 11\nstop\nmark 1\nget\nstop\n", "aabbbcabca", "0:0-1 1:1-6 1:6-9 0:9-10", 10},
	} {
		p := handProg(c.of)
		if !wantProg(t, p) {
			t.Fatalf("%q is not ok", c.of)
		}
		got, far := impl.ProgRun(p, c.text)
		wantLexed(t, fmt.Sprintf("%q of %q", c.of, c.text), got, far, c.want, c.far)
		wantProgRuns(t, p, c.text)
	}
}

// The program of a machine of rules cuts as the rules mean it.
func TestProgCutsAsTheRulesMean(t *testing.T) {
	var d dice = 107
	met := map[string]int{}
	for i, list := range slices.Concat(spreadRules(letterRexes(150), 150), spreadRules(smallRexes(3), 60)) {
		m, ok := impl.DfaOf(list)
		if !ok {
			continue
		}
		for _, m := range []impl.Dfa{m, impl.LeastOf(m)} {
			p := wantProgOf(t, m)
			if p == nil {
				met["too long"]++
				continue
			}
			for _, text := range []string{"", "ab", letterText(&d, i%13), letterText(&d, 12)} {
				meant, far := impl.LexMeans(list, text)
				got, to := impl.ProgRun(p, text)
				wantLexed(t, fmt.Sprintf("%q of %q", plainRulesText(list), text), got, to, plainTokens(meant), far)
				wantProgRuns(t, p, text)
				met["cut"] += len(got)
			}
			wantCutAlike(t, m, p, letterText(&d, 200))
		}
	}
	if met["cut"] < 1000 {
		t.Errorf("%v", met)
	}
}

func TestProgOfALexer(t *testing.T) {
	m := machineOf(t, readRules(t, lexerRules))
	for _, m := range []impl.Dfa{m, impl.LeastOf(m)} {
		p := wantProgOf(t, m)
		for _, c := range []struct {
			text, want string
			far        int
		}{
			{"if ifx 42?", "0:0-2 3:2-3 1:3-6 3:6-7 2:7-9", 9},
			{"", "", 0},
			{"?if", "", 0},
			{"if4if", "0:0-2 2:2-3 0:3-5", 5},
			{"i f", "1:0-1 3:1-2 1:2-3", 3},
		} {
			got, far := impl.ProgRun(p, c.text)
			wantLexed(t, c.text, got, far, c.want, c.far)
		}
		for _, text := range slices.Concat(textsOf("if1 ", 5), []string{strings.Repeat("if ifx 42 ", 20), strings.Repeat("if ifx 42 ", 20) + "i"}) {
			wantCutAlike(t, m, p, text)
		}
	}
}

func TestProgRunIsProgAtOneBehindTheOther(t *testing.T) {
	var d dice = 109
	for range 300 {
		p := spreadProg(&d)
		text := spreadText(&d, d.upTo(201))
		got, far := impl.ProgRun(p, text)
		at := 0
		for _, x := range got {
			rule, to, _ := impl.ProgAt(p, text, at)
			if x != token(rule, at, to) {
				t.Fatalf("%s%q at %d: %v, and rule %d to %d", plainProgText(p), text, at, x, rule, to)
			}
			at = to
		}
		if rule, to, _ := impl.ProgAt(p, text, at); far != at || at < len(text) && (rule != -1 || to != at) {
			t.Fatalf("%s%q: it ends at %d, and there is rule %d to %d", plainProgText(p), text, far, rule, to)
		}
	}
}

// progLists is programs that are ok, and such as are not.
func progLists() [][]impl.Ins {
	out := [][]impl.Ins{nil, {{}}, {{}, {}}, {getIns}, {stopIns}, {getIns, stopIns}, {stopIns, getIns}, {getIns, getIns, stopIns}, {markIns(0), getIns, stopIns}, {markIns(1), getIns, stopIns}, {markIns(0), stopIns, getIns}, {ins(2, 1, 0, 0), stopIns}, {ins(2, 0, 1, 0), stopIns}, {ins(2, 0, 0, 1), stopIns}, {ins(5, 0, 0, 0)}, {ins(-1, -2, -3, -4)}, {ins(1<<32+2, 0, 0, 0), stopIns}, sizedProg(1500), sizedProg(1501), sizedProg(3000)}
	for _, of := range []string{loopOfA, aThenB, through, noMarks} {
		out = append(out, handProg(of))
	}
	return out
}

func TestProgSameOfEachTwo(t *testing.T) {
	for i, a := range progLists() {
		for j, b := range progLists() {
			if same := impl.ProgSame(a, slices.Clone(b)); same != (i == j) {
				t.Errorf("%.60v and %.60v: %t", a, b, same)
			}
		}
	}
	if !impl.ProgSame(nil, []impl.Ins{}) || !impl.ProgSame([]impl.Ins{}, nil) || !impl.ProgSame([]impl.Ins{{}}[:0], nil) || impl.ProgSame(nil, []impl.Ins{{}}) || impl.ProgSame([]impl.Ins{{}}, nil) {
		t.Error("empty and nil lists")
	}
}

func TestProgSameSeesEachChange(t *testing.T) {
	var d dice = 113
	for _, p := range [][]impl.Ins{handProg(through), handProg(aThenB), spreadProg(&d), spreadProg(&d), sizedProg(20)} {
		differs := func(what string, other []impl.Ins) {
			t.Helper()
			if impl.ProgSame(p, other) || impl.ProgSame(other, p) || !impl.ProgSame(other, slices.Clone(other)) {
				t.Errorf("%s: %v", what, other)
			}
		}
		for i := range p {
			for _, by := range []int{1, -1, 256, 1 << 32} {
				for what, change := range map[string]func(x *impl.Ins){"Op": func(x *impl.Ins) { x.Op += by }, "A": func(x *impl.Ins) { x.A += by }, "B": func(x *impl.Ins) { x.B += by }, "To": func(x *impl.Ins) { x.To += by }} {
					other := slices.Clone(p)
					change(&other[i])
					differs(fmt.Sprint(what, " at ", i), other)
				}
			}
			differs("one left out", slices.Delete(slices.Clone(p), i, i+1))
			differs("one twice", slices.Insert(slices.Clone(p), i, p[i]))
			differs("the first ones", p[:i])
			for j := range i {
				other := slices.Clone(p)
				other[i], other[j] = other[j], other[i]
				if p[i] != p[j] {
					differs("in another order", other)
				}
			}
		}
		if !impl.ProgSame(p, slices.Clone(p)) {
			t.Error("not the same as a copy")
		}
	}
}

// roomyProg is the program with room behind its end that is written full: it would be ok, and another one, with that.
func roomyProg(p []impl.Ins) []impl.Ins {
	return append(slices.Clone(p), getIns, markIns(0), getIns, stopIns)[:len(p)]
}

func TestProgChangesNoArgument(t *testing.T) {
	for _, d := range leastMachines(t) {
		given := roomyDfa(d)
		before := wholeDfa(given)
		p, ok := impl.ProgOf(given)
		if !plainDfaSame(wholeDfa(given), before) {
			t.Fatalf("%v is changed", d)
		}
		if want, is := impl.ProgOf(d); ok != is || !slices.Equal(p, want) {
			t.Fatalf("%v: what lies behind the ends of lists counts", d)
		}
	}
	for _, a := range progLists() {
		for _, b := range progLists() {
			given, other := roomyProg(a), roomyProg(b)
			before, otherBefore := slices.Clone(given[:cap(given)]), slices.Clone(other[:cap(other)])
			same, ok, text := impl.ProgSame(given, other), impl.ProgOk(given), impl.ProgText(given)
			rule, to, done := impl.ProgAt(given, "aab", 1)
			list, far := impl.ProgRun(given, "aab")
			if !slices.Equal(given[:cap(given)], before) || !slices.Equal(other[:cap(other)], otherBefore) {
				t.Fatalf("%.60v or %.60v are changed", a, b)
			}
			wantRule, wantTo, wantDone := impl.ProgAt(a, "aab", 1)
			want, wantFar := impl.ProgRun(a, "aab")
			if same != slices.Equal(a, b) || ok != plainProgOk(a) || text != plainProgText(a) || rule != wantRule || to != wantTo || done != wantDone || far != wantFar || !slices.Equal(list, want) {
				t.Fatalf("%.60v: what lies behind the ends of lists counts", a)
			}
		}
	}
}

// scribbleProg writes over all of an answer, spare room included.
func scribbleProg(p []impl.Ins) {
	for i := range p[:cap(p)] {
		p[:cap(p)][i] = ins(-60, -61, -62, -63)
	}
}

func TestProgAnswersAreNewMemory(t *testing.T) {
	told := 0
	check := func(what string, call func() ([]impl.Ins, bool), unchanged func() bool) {
		t.Helper()
		first, _ := call()
		second, _ := call()
		told += min(len(first), 1)
		want := slices.Clone(first)
		scribbleProg(first)
		if !unchanged() {
			t.Fatalf("%.200s: an answer shares memory with the argument", what)
		}
		if third, _ := call(); !slices.Equal(second, want) || !slices.Equal(third, want) {
			t.Fatalf("%.200s: two answers share memory", what)
		}
	}
	for _, d := range leastMachines(t) {
		given := roomyDfa(d)
		before := wholeDfa(given)
		check(fmt.Sprint(d), func() ([]impl.Ins, bool) { return impl.ProgOf(given) }, func() bool { return plainDfaSame(wholeDfa(given), before) })
	}
	for _, p := range progLists() {
		text := plainProgText(p)
		check(text, func() ([]impl.Ins, bool) { return impl.ProgRead(text) }, func() bool { return text == plainProgText(p) })
		given := roomyProg(p)
		before := slices.Clone(given[:cap(given)])
		first, far := impl.ProgRun(given, "aabaa")
		second, _ := impl.ProgRun(given, "aabaa")
		want := slices.Clone(first)
		scribbleTokens(first)
		third, thirdFar := impl.ProgRun(given, "aabaa")
		if !slices.Equal(given[:cap(given)], before) || !slices.Equal(second, want) || !slices.Equal(third, want) || far != thirdFar {
			t.Fatalf("%.200s: tokens share memory", text)
		}
	}
	if told < 70 {
		t.Errorf("only %d have instructions", told)
	}
}

// No call hangs on those ahead of it, nor on those beside it.
func TestProgKeepsNothing(t *testing.T) {
	machines := leastMachines(t)
	var d dice = 127
	text := "aababbabac\xff\x00\x01\x02ab"
	var given [][]impl.Ins
	for range machines {
		given = append(given, spreadProg(&d))
	}
	answer := func(i int) string {
		p, ok := impl.ProgOf(machines[i])
		cut, far := impl.ProgRun(p, text)
		rule, to, done := impl.ProgAt(given[i], text, i%17)
		other, otherFar := impl.ProgRun(given[i], text[i%5:])
		back, is := impl.ProgRead(impl.ProgText(given[i]))
		return fmt.Sprint(impl.ProgText(p), ok, impl.ProgOk(p), impl.LexText(cut), far, rule, to, done, impl.LexText(other), otherFar, back, is, impl.ProgSame(p, back))
	}
	first := make([]string, len(machines))
	for i := range machines {
		first[i] = answer(i)
	}
	for worker := range 4 {
		t.Run(fmt.Sprint("worker ", worker), func(t *testing.T) {
			t.Parallel()
			for i := len(machines) - 1; i >= 0; i-- {
				impl.ProgOf(machines[(i+worker)%len(machines)])
				impl.ProgRun(given[(i+worker)%len(given)], text)
				if got := answer(i); got != first[i] {
					t.Fatalf("%d: %.200q, and the first time %.200q", i, got, first[i])
				}
			}
		})
	}
}
