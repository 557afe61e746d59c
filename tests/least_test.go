package tests

import (
	"fmt"
	"math"
	"slices"
	"strconv"
	"strings"
	"testing"

	"loop.example/carding/impl"
)

// readDfa reads what dfaText writes.
func readDfa(t *testing.T, text string) impl.Dfa {
	t.Helper()
	var d impl.Dfa
	for _, line := range strings.Split(strings.TrimSuffix(text, "\n"), "\n") {
		if set, is := strings.CutPrefix(line, "part "); is {
			part, ok := impl.SetRead(set)
			if !ok {
				t.Fatalf("%q is no part", line)
			}
			d.Parts = append(d.Parts, part)
			continue
		}
		var numbers []int
		for _, word := range strings.Fields(line) {
			n, err := strconv.Atoi(word)
			if err != nil {
				t.Fatalf("%q is no state", line)
			}
			numbers = append(numbers, n)
		}
		d.Acc, d.Rows = append(d.Acc, numbers[1]), append(d.Rows, numbers[2:])
	}
	if got := dfaText(d); got != text || !plainDfaOk(d) {
		t.Fatalf("%q is no machine that is ok", text)
	}
	return d
}

// onA is a machine by what its states come to and lead to: behind an a, and behind all others.
func onA(accs []int, behindOthers, behindA func(state int) int) impl.Dfa {
	d := impl.Dfa{Parts: [][]impl.Span{{{Lo: 0, Hi: 96}, {Lo: 98, Hi: 255}}, {{Lo: 97, Hi: 97}}}, Acc: accs}
	for state := range accs {
		d.Rows = append(d.Rows, []int{behindOthers(state), behindA(state)})
	}
	return d
}

func never(int) int { return -1 }

// accsBy is for that many states.
func accsBy(states int, by func(state int) int) []int {
	out := make([]int, states)
	for state := range out {
		out[state] = by(state)
	}
	return out
}

// chainMachine goes from each state to the next one, of which the last one alone has come to a rule.
func chainMachine(states int) impl.Dfa {
	accs := accsBy(states, never)
	accs[states-1] = 3
	return onA(accs, never, func(state int) int {
		if state == states-1 {
			return -1
		}
		return state + 1
	})
}

// accOf and stepOf take -1 for a state too: it has come to no rule, and leads to itself.
func accOf(d impl.Dfa, state int) int {
	if state < 0 {
		return -1
	}
	return d.Acc[state]
}

func stepOf(d impl.Dfa, state, part int) int {
	if state < 0 {
		return -1
	}
	return d.Rows[state][part]
}

// apart is how long the shortest text is by which each two states differ, or -1: of -1 at 0, and of each state one place further on.
type apart [impl.DfaMax + 1][impl.DfaMax + 1]int

func (x *apart) of(s, t int) int { return x[s+1][t+1] }

// plainApart looks, for each length in turn, for all that lead to such as differ by a text that is one shorter.
func plainApart(d impl.Dfa) *apart {
	out := &apart{}
	states := len(d.Rows)
	each := func(do func(s, t int)) {
		for s := -1; s < states; s++ {
			for t := -1; t < states; t++ {
				do(s, t)
			}
		}
	}
	each(func(s, t int) {
		out[s+1][t+1] = -1
		if accOf(d, s) != accOf(d, t) {
			out[s+1][t+1] = 0
		}
	})
	for size, more := 1, true; more; size++ {
		more = false
		each(func(s, t int) {
			for part := 0; part < len(d.Parts) && out.of(s, t) < 0; part++ {
				if out.of(stepOf(d, s, part), stepOf(d, t, part)) == size-1 {
					out[s+1][t+1], more = size, true
				}
			}
		})
	}
	return out
}

// plainComesTo is whether a state is come to from another one, by any text.
func plainComesTo(d impl.Dfa, from int) []bool {
	out := make([]bool, len(d.Rows))
	todo := []int{from}
	for len(todo) > 0 {
		state := todo[len(todo)-1]
		todo = todo[:len(todo)-1]
		if state < 0 || out[state] {
			continue
		}
		out[state] = true
		todo = append(todo, d.Rows[state]...)
	}
	return out
}

func plainLive(d impl.Dfa) []bool {
	out := make([]bool, len(d.Rows))
	for from := range d.Rows {
		for state, is := range plainComesTo(d, from) {
			if is && d.Acc[state] >= 0 {
				out[from] = true
			}
		}
	}
	return out
}

func plainKinds(d impl.Dfa) []int {
	far, live := plainApart(d), plainLive(d)
	var out []int
	most := -1
	for state := range d.Rows {
		kind := -1
		for other := 0; other < state && kind < 0; other++ {
			if live[state] && far.of(state, other) < 0 {
				kind = out[other]
			}
		}
		if live[state] && kind < 0 {
			most++
			kind = most
		}
		out = append(out, kind)
	}
	return out
}

// plainTwo goes, from two that differ by a text of some size, by the first byte behind which they do by one that is one shorter.
func plainTwo(d impl.Dfa, far *apart, s, t int) (bool, string) {
	text := ""
	for size := far.of(s, t); size > 0; size-- {
		part := 0
		for far.of(stepOf(d, s, part), stepOf(d, t, part)) != size-1 {
			part++
		}
		s, t = stepOf(d, s, part), stepOf(d, t, part)
		text += string([]byte{byte(d.Parts[part][0].Lo)})
	}
	return far.of(s, t) < 0, text
}

// plainFoundFirst makes texts one by one, as the words say, and walks each from the two states on.
func plainFoundFirst(d impl.Dfa, table [][256]int, s, t int) (bool, string) {
	from := func(state int, text string) int {
		for i := 0; i < len(text) && state >= 0; i++ {
			state = table[state][text[i]]
		}
		return state
	}
	texts, led := []string{""}, [][2]int{{s, t}}
	for at := 0; at < len(texts); at++ {
		if accOf(d, led[at][0]) != accOf(d, led[at][1]) {
			return false, texts[at]
		}
		for _, part := range d.Parts {
			text := texts[at] + string([]byte{byte(part[0].Lo)})
			to := [2]int{from(s, text), from(t, text)}
			if !slices.Contains(led, to) {
				texts, led = append(texts, text), append(led, to)
			}
		}
	}
	return true, ""
}

// plainLeast is the smallest machine as the words say, with all its parts first, and then with those that lead the same ways as one.
func plainLeast(d impl.Dfa) impl.Dfa {
	kinds := plainKinds(d)
	if kinds[0] < 0 {
		return impl.Dfa{Parts: [][]impl.Span{{{Lo: 0, Hi: 255}}}, Rows: [][]int{{-1}}, Acc: []int{-1}}
	}
	order := []int{kinds[0]}
	var all impl.Dfa
	for place := 0; place < len(order); place++ {
		state := slices.Index(kinds, order[place])
		var row []int
		for _, next := range d.Rows[state] {
			if next < 0 || kinds[next] < 0 {
				row = append(row, -1)
				continue
			}
			if !slices.Contains(order, kinds[next]) {
				order = append(order, kinds[next])
			}
			row = append(row, slices.Index(order, kinds[next]))
		}
		all.Rows, all.Acc = append(all.Rows, row), append(all.Acc, d.Acc[state])
	}
	ways := func(part int) string {
		text := ""
		for _, row := range all.Rows {
			text += fmt.Sprint(row[part], " ")
		}
		return text
	}
	var met []string
	var sets []flags
	out := impl.Dfa{Rows: make([][]int, len(all.Rows)), Acc: all.Acc}
	for part, set := range d.Parts {
		place := slices.Index(met, ways(part))
		if place < 0 {
			place = len(met)
			met, sets = append(met, ways(part)), append(sets, flags{})
			for state, row := range all.Rows {
				out.Rows[state] = append(out.Rows[state], row[part])
			}
		}
		for b, in := range flagsOf(set) {
			sets[place][b] = sets[place][b] || in
		}
	}
	for _, set := range sets {
		out.Parts = append(out.Parts, set.spans())
	}
	return out
}

// wantLeast holds all that is told of a machine that is ok against what is plainly so, and asks of the smallest one what it promises.
func wantLeast(t *testing.T, d impl.Dfa) impl.Dfa {
	t.Helper()
	if live, want := impl.LeastLive(d), plainLive(d); !slices.Equal(live, want) {
		t.Fatalf("%slive: %v, not %v", dfaText(d), live, want)
	}
	if kinds, want := impl.LeastKinds(d), plainKinds(d); !slices.Equal(kinds, want) {
		t.Fatalf("%skinds: %v, not %v", dfaText(d), kinds, want)
	}
	least := impl.LeastOf(d)
	if want := plainLeast(d); !plainDfaSame(least, want) {
		t.Fatalf("%sthe smallest is\n%s, not\n%s", dfaText(d), dfaText(least), dfaText(want))
	}
	wantNoneForNothing(t, least)
	if again := impl.LeastOf(least); !impl.DfaSame(again, least) || !plainDfaSame(again, least) {
		t.Fatalf("%sthe smallest is\n%s, and of that\n%s", dfaText(d), dfaText(least), dfaText(again))
	}
	return least
}

// wantNoneForNothing asks a smallest machine for what makes it one.
func wantNoneForNothing(t *testing.T, least impl.Dfa) {
	t.Helper()
	if !impl.DfaOk(least) || !plainDfaOk(least) {
		t.Fatalf("%v is not ok", least)
	}
	far, come, live := plainApart(least), plainComesTo(least, 0), plainLive(least)
	for state := range least.Rows {
		if !come[state] || !live[state] && len(least.Rows) > 1 {
			t.Fatalf("state %d is for nothing:\n%s", state, dfaText(least))
		}
		for other := range state {
			if same, _ := impl.LeastTwo(least, other, state); same || far.of(other, state) < 0 {
				t.Fatalf("states %d and %d differ in nothing:\n%s", other, state, dfaText(least))
			}
		}
	}
	for part := range least.Parts {
		for other := range part {
			if !slices.ContainsFunc(least.Rows, func(row []int) bool { return row[part] != row[other] }) {
				t.Fatalf("parts %d and %d lead the same ways:\n%s", other, part, dfaText(least))
			}
		}
	}
}

// wantTwos asks for each two states.
func wantTwos(t *testing.T, d impl.Dfa) {
	t.Helper()
	far := plainApart(d)
	for one := range d.Rows {
		for other := range d.Rows {
			wantSame, want := plainTwo(d, far, one, other)
			if same, text := impl.LeastTwo(d, one, other); same != wantSame || text != want {
				t.Fatalf("%s%d and %d: %t %q, not %t %q", dfaText(d), one, other, same, text, wantSame, want)
			}
		}
	}
}

// wantFoundFirst asks for each two states of a machine that has few.
func wantFoundFirst(t *testing.T, d impl.Dfa) {
	t.Helper()
	table := plainTable(d)
	for one := range d.Rows {
		for other := range d.Rows {
			wantSame, want := plainFoundFirst(d, table, one, other)
			if same, text := impl.LeastTwo(d, one, other); same != wantSame || text != want {
				t.Fatalf("%s%d and %d: %t %q, not %t %q", dfaText(d), one, other, same, text, wantSame, want)
			}
		}
	}
}

// wantAllOf asks for all of a machine, of which the states are not too many.
func wantAllOf(t *testing.T, d impl.Dfa) impl.Dfa {
	t.Helper()
	wantTwos(t, d)
	wantFoundFirst(t, d)
	return wantLeast(t, d)
}

// wantNoLeast asks for each fixed answer of a machine that is not ok.
func wantNoLeast(t *testing.T, what string, d impl.Dfa) {
	t.Helper()
	if live := impl.LeastLive(d); len(live) != 0 {
		t.Errorf("%s: live: %v", what, live)
	}
	if kinds := impl.LeastKinds(d); len(kinds) != 0 {
		t.Errorf("%s: kinds: %v", what, kinds)
	}
	if m := impl.LeastOf(d); len(m.Parts) != 0 || len(m.Rows) != 0 || len(m.Acc) != 0 {
		t.Errorf("%s: a smallest machine of %d parts and %d states", what, len(m.Parts), len(m.Rows))
	}
	for _, two := range [][2]int{{0, 0}, {0, 1}, {1, 0}, {2, 2}, {-1, -1}, {0, -1}, {39, 40}, {math.MaxInt, math.MinInt}} {
		if same, text := impl.LeastTwo(d, two[0], two[1]); same || text != "" {
			t.Errorf("%s: states %d and %d: %t %q", what, two[0], two[1], same, text)
		}
	}
}

// The texts of machines are those of parts and states: number, rule and what it leads to.
const (
	partAll  = "part 0-255\n"
	partsA   = "part 0-96,98-255\npart 97\n"
	partsAB  = "part 0-96,99-255\npart 97\npart 98\n"
	noRuleAt = partAll + "0 -1 -1\n"
)

func TestLeastByHand(t *testing.T) {
	for _, c := range []struct {
		of    string
		live  []bool
		kinds []int
		least string
	}{
		// One state.
		{noRuleAt, []bool{false}, []int{-1}, noRuleAt},
		{partAll + "0 -1 0\n", []bool{false}, []int{-1}, noRuleAt},
		{partAll + "0 0 -1\n", []bool{true}, []int{0}, partAll + "0 0 -1\n"},
		{partAll + "0 4 0\n", []bool{true}, []int{0}, partAll + "0 4 0\n"},
		{partsA + "0 -1 -1 0\n", []bool{false}, []int{-1}, noRuleAt},
		{partsA + "0 2 -1 0\n", []bool{true}, []int{0}, partsA + "0 2 -1 0\n"},
		{partsA + "0 2 0 0\n", []bool{true}, []int{0}, partAll + "0 2 0\n"},
		{partsA + "0 2 -1 -1\n", []bool{true}, []int{0}, partAll + "0 2 -1\n"},

		// States that lead to themselves alone.
		{partAll + "0 -1 1\n1 0 1\n", []bool{true, true}, []int{0, 1}, partAll + "0 -1 1\n1 0 1\n"},
		{partAll + "0 0 1\n1 0 1\n", []bool{true, true}, []int{0, 0}, partAll + "0 0 0\n"},
		{partAll + "0 0 1\n1 -1 1\n", []bool{true, false}, []int{0, -1}, partAll + "0 0 -1\n"},
		{partAll + "0 -1 1\n1 -1 1\n", []bool{false, false}, []int{-1, -1}, noRuleAt},
		{partAll + "0 0 0\n1 0 1\n2 1 2\n3 -1 3\n4 1 4\n", []bool{true, true, true, false, true}, []int{0, 0, 1, -1, 1}, partAll + "0 0 0\n"},
		{partsA + "0 -1 1 2\n1 0 1 1\n2 0 2 2\n", []bool{true, true, true}, []int{0, 1, 1}, partAll + "0 -1 1\n1 0 1\n"},
		{partsA + "0 -1 1 2\n1 0 1 1\n2 1 2 2\n", []bool{true, true, true}, []int{0, 1, 2}, partsA + "0 -1 1 2\n1 0 1 1\n2 1 2 2\n"},

		// States that are not come to, with a rule and with none, alike and not.
		{partAll + "0 -1 2\n1 4 0\n2 0 2\n", []bool{true, true, true}, []int{0, 1, 2}, partAll + "0 -1 1\n1 0 1\n"},
		{partAll + "0 0 -1\n1 -1 0\n2 0 -1\n3 -1 2\n4 -1 4\n", []bool{true, true, true, true, false}, []int{0, 1, 0, 1, -1}, partAll + "0 0 -1\n"},
		{partsA + "0 1 0 0\n1 1 0 1\n", []bool{true, true}, []int{0, 0}, partAll + "0 1 0\n"},
		{partsA + "0 1 0 0\n1 1 -1 0\n", []bool{true, true}, []int{0, 1}, partAll + "0 1 0\n"},

		// State 0 from which one comes to no rule, though there are such.
		{partAll + "0 -1 0\n1 0 1\n", []bool{false, true}, []int{-1, 0}, noRuleAt},
		{partAll + "0 -1 1\n1 -1 0\n2 3 0\n3 -1 2\n", []bool{false, false, true, true}, []int{-1, -1, 0, 1}, noRuleAt},
		{partsAB + "0 -1 -1 0 1\n1 -1 1 -1 0\n2 0 2 2 2\n3 1 3 3 3\n", []bool{false, false, true, true}, []int{-1, -1, 0, 1}, noRuleAt},

		// One leads to -1, the other to a state from which one comes to no rule: that is no difference.
		{partAll + "0 -1 1\n1 0 -1\n2 0 3\n3 -1 3\n", []bool{true, true, true, false}, []int{0, 1, 1, -1}, partAll + "0 -1 1\n1 0 -1\n"},
		{partsA + "0 -1 1 2\n1 0 -1 -1\n2 0 3 4\n3 -1 4 -1\n4 -1 3 4\n", []bool{true, true, true, false, false}, []int{0, 1, 1, -1, -1}, partAll + "0 -1 1\n1 0 -1\n"},
		{partsA + "0 0 1 0\n1 -1 1 1\n", []bool{true, false}, []int{0, -1}, partsA + "0 0 -1 0\n"},

		// States that differ in the rule alone.
		{partsAB + "0 -1 -1 1 2\n1 0 -1 -1 -1\n2 1 -1 -1 -1\n", []bool{true, true, true}, []int{0, 1, 2}, partsAB + "0 -1 -1 1 2\n1 0 -1 -1 -1\n2 1 -1 -1 -1\n"},
		{partsAB + "0 -1 -1 1 2\n1 0 -1 -1 -1\n2 0 -1 -1 -1\n", []bool{true, true, true}, []int{0, 1, 1}, "part 0-96,99-255\npart 97-98\n0 -1 -1 1\n1 0 -1 -1\n"},
		{partAll + "0 3 1\n1 4 0\n", []bool{true, true}, []int{0, 1}, partAll + "0 3 1\n1 4 0\n"},
		{partAll + "0 4 1\n1 4 0\n", []bool{true, true}, []int{0, 0}, partAll + "0 4 0\n"},
		{partAll + "0 -1 1\n1 4 0\n", []bool{true, true}, []int{0, 1}, partAll + "0 -1 1\n1 4 0\n"},

		// Kinds are cut by what is behind what is behind.
		{partAll + "0 -1 1\n1 -1 2\n2 -1 3\n3 0 -1\n", []bool{true, true, true, true}, []int{0, 1, 2, 3}, partAll + "0 -1 1\n1 -1 2\n2 -1 3\n3 0 -1\n"},
		{partAll + "0 0 1\n1 0 2\n2 0 3\n3 0 -1\n", []bool{true, true, true, true}, []int{0, 1, 2, 3}, partAll + "0 0 1\n1 0 2\n2 0 3\n3 0 -1\n"},
		{partAll + "0 0 1\n1 0 2\n2 0 3\n3 0 0\n", []bool{true, true, true, true}, []int{0, 0, 0, 0}, partAll + "0 0 0\n"},
		{partAll + "0 0 1\n1 1 2\n2 0 3\n3 1 0\n", []bool{true, true, true, true}, []int{0, 1, 0, 1}, partAll + "0 0 1\n1 1 0\n"},
		{partAll + "0 0 1\n1 1 2\n2 0 3\n3 1 3\n", []bool{true, true, true, true}, []int{0, 1, 2, 3}, partAll + "0 0 1\n1 1 2\n2 0 3\n3 1 3\n"},
	} {
		d := readDfa(t, c.of)
		least := wantAllOf(t, d)
		if live, kinds := impl.LeastLive(d), impl.LeastKinds(d); !slices.Equal(live, c.live) || !slices.Equal(kinds, c.kinds) || dfaText(least) != c.least {
			t.Errorf("%s%v %v\n%s", c.of, live, kinds, dfaText(least))
		}
	}
}

// The states of the smallest are in the order in which they are come to, not in that of their kinds.
func TestLeastOfIsInOrder(t *testing.T) {
	for of, want := range map[string]string{
		// From 0 on the last is come to first.
		partsAB + "0 -1 3 2 1\n1 0 -1 -1 -1\n2 1 -1 -1 -1\n3 2 -1 -1 -1\n": partsAB + "0 -1 1 2 3\n1 2 -1 -1 -1\n2 1 -1 -1 -1\n3 0 -1 -1 -1\n",
		// All that 0 leads to comes ahead of what these lead to, and that of the first of these ahead of that of the next.
		partsAB + "0 -1 4 -1 3\n1 0 -1 -1 -1\n2 1 -1 -1 -1\n3 2 -1 2 -1\n4 3 -1 -1 1\n": partsAB + "0 -1 1 -1 2\n1 3 -1 -1 3\n2 2 -1 4 -1\n3 0 -1 -1 -1\n4 1 -1 -1 -1\n",
		// What leads nowhere in truth is not counted, nor what was come to, nor what is alike.
		partsAB + "0 -1 1 0 5\n1 -1 1 -1 1\n2 0 -1 -1 -1\n3 0 -1 1 -1\n4 1 0 3 2\n5 1 0 2 3\n": partsAB + "0 -1 -1 0 1\n1 1 0 2 2\n2 0 -1 -1 -1\n",
		// Back to the first, which is of a kind with another.
		partsA + "0 -1 2 1\n1 0 3 1\n2 -1 0 1\n3 -1 3 1\n": partsA + "0 -1 0 1\n1 0 0 1\n",
		// The kinds are 0, 1, 2; they are come to in the order 0, 2, 1.
		partsA + "0 -1 2 1\n1 0 -1 -1\n2 1 1 2\n": partsA + "0 -1 1 2\n1 1 2 1\n2 0 -1 -1\n",
	} {
		if got := dfaText(wantAllOf(t, readDfa(t, of))); got != want {
			t.Errorf("%s:\n%s, not\n%s", of, got, want)
		}
	}
}

// Parts are one where all states that are left lead the same ways, wherever they stand, and by their first bytes.
func TestLeastOfPartsThatAreOne(t *testing.T) {
	parts := "part 0-9\npart 10-19,40\npart 20-29,50-60\npart 30-39,41-49,61-255\n"
	for of, want := range map[string]string{
		// They lead the same ways already, side by side or not.
		parts + "0 0 0 0 0 0\n":                         partAll + "0 0 0\n",
		parts + "0 0 0 0 -1 -1\n":                       "part 0-19,40\npart 20-39,41-255\n0 0 0 -1\n",
		parts + "0 0 0 -1 0 -1\n":                       "part 0-9,20-29,50-60\npart 10-19,30-49,61-255\n0 0 0 -1\n",
		parts + "0 0 0 -1 -1 0\n":                       "part 0-9,30-39,41-49,61-255\npart 10-29,40,50-60\n0 0 0 -1\n",
		parts + "0 0 -1 1 -1 -1\n1 1 -1 0 -1 -1\n":      "part 0-9,20-39,41-255\npart 10-19,40\n0 0 -1 1\n1 1 -1 0\n",
		parts + "0 0 -1 1 -1 0\n1 1 -1 0 -1 1\n":        "part 0-9,20-29,50-60\npart 10-19,40\npart 30-39,41-49,61-255\n0 0 -1 1 0\n1 1 -1 0 1\n",
		parts + "0 0 -1 1 0 0\n1 1 -1 0 1 0\n":          parts + "0 0 -1 1 0 0\n1 1 -1 0 1 0\n",
		"part 0-127\npart 128-255\n0 2 0 0\n":           partAll + "0 2 0\n",
		"part 0-127\npart 128-255\n0 2 0 -1\n":          "part 0-127\npart 128-255\n0 2 0 -1\n",
		"part 0,255\npart 1-254\n0 2 -1 0\n":            "part 0,255\npart 1-254\n0 2 -1 0\n",
		"part 0,255\npart 1-254\n0 2 -1 -1\n":           partAll + "0 2 -1\n",
		"part 0,2\npart 1,3\npart 4-255\n0 2 -1 -1 0\n": "part 0-3\npart 4-255\n0 2 -1 0\n",

		// They do so only in the smallest: as states are alike.
		parts + "0 -1 1 -1 2 -1\n1 0 -1 -1 -1 -1\n2 0 -1 -1 -1 -1\n": "part 0-9,20-29,50-60\npart 10-19,30-49,61-255\n0 -1 1 -1\n1 0 -1 -1\n",
		parts + "0 1 0 1 0 1\n1 1 1 0 0 1\n":                         partAll + "0 1 0\n",
		parts + "0 -1 1 2 1 2\n1 0 1 2 1 2\n2 0 2 1 2 1\n":           partAll + "0 -1 1\n1 0 1\n",
		// As one leads nowhere in truth.
		parts + "0 0 -1 1 0 1\n1 -1 1 1 -1 1\n":               "part 0-19,30-49,61-255\npart 20-29,50-60\n0 0 -1 0\n",
		parts + "0 0 0 -1 1 2\n1 -1 1 1 1 1\n2 -1 1 2 1 -1\n": "part 0-9\npart 10-255\n0 0 0 -1\n",
		// As the state that told them apart is not come to.
		parts + "0 0 -1 -1 0 0\n1 1 0 1 0 1\n":               "part 0-19,40\npart 20-39,41-255\n0 0 -1 0\n",
		parts + "0 0 2 -1 2 -1\n1 1 0 1 2 -1\n2 2 0 0 0 0\n": "part 0-9,20-29,50-60\npart 10-19,30-49,61-255\n0 0 1 -1\n1 2 0 0\n",
	} {
		if got := dfaText(wantAllOf(t, readDfa(t, of))); got != want {
			t.Errorf("%s:\n%s, not\n%s", of, got, want)
		}
	}
}

// wantTwo asks for two states in both orders: what they differ by is the same.
func wantTwo(t *testing.T, d impl.Dfa, one, other int, want bool, by string) {
	t.Helper()
	for range 2 {
		if same, text := impl.LeastTwo(d, one, other); same != want || text != by {
			t.Errorf("%s%d and %d: %t %q, not %t %q", dfaText(d), one, other, same, text, want, by)
		}
		one, other = other, one
	}
}

func TestLeastTwoByHand(t *testing.T) {
	// What 0 and 1 differ by, and whether they do not.
	for _, c := range []struct {
		of   string
		same bool
		by   string
	}{
		// In nothing.
		{partAll + "0 -1 -1\n1 -1 -1\n", true, ""},
		{partAll + "0 2 -1\n1 2 -1\n", true, ""},
		{partAll + "0 2 0\n1 2 1\n", true, ""},
		{partAll + "0 2 1\n1 2 0\n", true, ""},
		{partAll + "0 2 -1\n1 2 2\n2 -1 2\n", true, ""},
		{partAll + "0 -1 -1\n1 -1 0\n", true, ""},
		{partsAB + "0 -1 2 3 -1\n1 -1 3 2 4\n2 1 2 -1 -1\n3 1 3 -1 -1\n4 -1 -1 4 -1\n", true, ""},

		// By the empty text: one has come to a rule, or to another one.
		{partAll + "0 0 -1\n1 -1 -1\n", false, ""},
		{partAll + "0 -1 0\n1 4 1\n", false, ""},
		{partAll + "0 0 1\n1 1 0\n", false, ""},
		{partAll + "0 3 1\n1 4 1\n", false, ""},

		// By one byte, the first of its part: the part may have others, and one of 128 or more is one byte too.
		{partAll + "0 0 0\n1 0 -1\n", false, "\x00"},
		{partAll + "0 0 2\n1 0 -1\n2 3 -1\n", false, "\x00"},
		{partAll + "0 0 2\n1 0 3\n2 3 -1\n3 2 -1\n", false, "\x00"},
		{partsA + "0 0 1 0\n1 0 1 -1\n", false, "a"},
		{"part 0-4,6-255\npart 5\n0 0 0 0\n1 0 1 -1\n", false, "\x05"},
		{"part 0-127\npart 128-255\n0 0 0 0\n1 0 1 -1\n", false, "\x80"},
		{"part 0-254\npart 255\n0 0 0 0\n1 0 1 -1\n", false, "\xff"},
		{"part 0-194\npart 195-255\n0 0 0 0\n1 0 1 -1\n", false, "\xc3"},
		{"part 0-9\npart 10-12,200-255\npart 13-199\n0 0 0 0 0\n1 0 1 -1 1\n", false, "\n"},

		// Of several the one of the first part, of whatever size.
		{partsAB + "0 0 -1 -1 0\n1 0 -1 1 -1\n", false, "a"},
		{partsAB + "0 0 -1 -1 0\n1 0 -1 -1 -1\n", false, "b"},
		{partsAB + "0 0 0 0 0\n1 0 -1 -1 -1\n", false, "\x00"},

		// A shorter one by a later part is ahead of a longer one.
		{partsAB + "0 -1 -1 2 4\n1 -1 -1 3 -1\n2 -1 -1 4 -1\n3 -1 -1 -1 -1\n4 0 -1 -1 -1\n", false, "b"},
		// Of two that are as long that of the first part at the first place.
		{partsAB + "0 -1 -1 2 3\n1 -1 -1 -1 -1\n2 -1 -1 -1 4\n3 -1 -1 4 -1\n4 0 -1 -1 -1\n", false, "ab"},
		{partsAB + "0 -1 -1 2 3\n1 -1 -1 -1 -1\n2 -1 -1 -1 -1\n3 -1 -1 4 -1\n4 0 -1 -1 -1\n", false, "ba"},
		{partsAB + "0 -1 -1 2 3\n1 -1 -1 -1 -1\n2 -1 -1 4 4\n3 -1 4 -1 -1\n4 0 -1 -1 -1\n", false, "aa"},
		{partsAB + "0 -1 -1 2 3\n1 -1 -1 -1 -1\n2 -1 -1 3 3\n3 -1 4 -1 -1\n4 0 -1 -1 -1\n", false, "b\x00"},

		// Where -1 is one of the two, one goes on from the other; where it is both, nothing comes of it.
		{partsAB + "0 -1 -1 2 -1\n1 -1 -1 -1 -1\n2 -1 -1 -1 3\n3 -1 4 -1 -1\n4 2 -1 -1 -1\n", false, "ab\x00"},
		{partsAB + "0 -1 -1 -1 -1\n1 -1 -1 2 -1\n2 -1 -1 -1 3\n3 -1 4 -1 -1\n4 2 -1 -1 -1\n", false, "ab\x00"},
		{partsAB + "0 -1 -1 2 4\n1 -1 -1 -1 3\n2 -1 2 2 2\n3 -1 -1 -1 5\n4 -1 -1 5 -1\n5 1 -1 -1 -1\n", false, "ba"},
		{partsAB + "0 -1 2 3 -1\n1 -1 3 2 4\n2 1 2 -1 -1\n3 1 3 -1 -1\n4 -1 -1 0 -1\n", false, "ba\x00"},
		{partsA + "0 0 0 2\n1 0 1 -1\n2 -1 3 -1\n3 -1 -1 2\n", true, ""},
		{partsA + "0 0 0 2\n1 0 1 -1\n2 -1 3 -1\n3 -1 0 2\n", false, "a\x00\x00"},
	} {
		d := readDfa(t, c.of)
		wantAllOf(t, d)
		wantTwo(t, d, 0, 1, c.same, c.by)
		for state := range d.Rows {
			wantTwo(t, d, state, state, true, "")
		}
	}
}

func TestLeastTwoOfStatesThatAreNone(t *testing.T) {
	for _, d := range okMachines(t) {
		many := len(d.Rows)
		places := append(oddPlaces(), many, many+1, -many, 40, 41)
		for _, none := range places {
			if none >= 0 && none < many {
				continue
			}
			for _, other := range append(places, many-1) {
				wantTwo(t, d, none, other, false, "")
			}
		}
		wantTwo(t, d, many-1, many-1, true, "")
		wantTwo(t, d, -1, -1, false, "")
		wantTwo(t, d, many, many, false, "")
	}
}

func TestLeastOfWrongOnes(t *testing.T) {
	one := impl.Dfa{Parts: [][]impl.Span{{{Lo: 0, Hi: 255}}}, Rows: [][]int{{0}}, Acc: []int{0}}
	for _, base := range []impl.Dfa{handMachine(), one, ringMachine(40), chainMachine(7), machineOf(t, fewRules(2))} {
		for what, d := range wrongNumbers(base) {
			wantNoLeast(t, what, d)
		}
	}
	for _, base := range []impl.Dfa{handMachine(), machineOf(t, fewRules(2))} {
		for what, d := range wrongMachines(base) {
			wantNoLeast(t, what, d)
		}
	}
	wantNoLeast(t, "nothing", impl.Dfa{})
	wantNoLeast(t, "one state, no parts", impl.Dfa{Rows: [][]int{nil}, Acc: []int{-1}})
	for _, many := range []int{0, 41, 42, 80, 1 << 16} {
		wantNoLeast(t, fmt.Sprint(many, " states"), ringMachine(many))
	}
	d := handMachine()
	d.Parts = slices.Repeat(d.Parts, 1<<16)
	wantNoLeast(t, "very many parts", d)
}

func TestLeastOf40States(t *testing.T) {
	itself := func(state int) int { return state }
	next := func(state int) int { return (state + 1) % 40 }
	lastOf := func(size int) []int { return accsBy(40, func(state int) int { return state%size/(size-1) - 1 }) }
	inTurn := func(size, least int) []int { return accsBy(40, func(state int) int { return state%size + least }) }
	for what, c := range map[string]struct {
		d    impl.Dfa
		many int
	}{
		"a ring":                       {ringMachine(40), 40},
		"a ring of 39":                 {ringMachine(39), 39},
		"a ring of 36, six times six":  {ringMachine(36), 6},
		"a chain":                      {chainMachine(40), 40},
		"all to themselves, no rule":   {onA(accsBy(40, never), itself, itself), 1},
		"all to themselves, one rule":  {onA(inTurn(1, 2), itself, itself), 1},
		"all nowhere":                  {onA(inTurn(1, 4), never, never), 1},
		"a ring of one rule":           {onA(inTurn(1, 2), never, next), 1},
		"a ring of no rule":            {onA(accsBy(40, never), never, next), 1},
		"a ring of five rules in turn": {onA(inTurn(5, 0), never, next), 5},
		"a ring of none and four":      {onA(inTurn(5, -1), never, next), 5},
		"the same backwards":           {onA(inTurn(5, -1), never, func(state int) int { return (state + 39) % 40 }), 5},
		"a ring of which one has":      {onA(lastOf(40), never, next), 40},
		"a ring of which each 20th":    {onA(lastOf(20), never, next), 20},
		"two rings of which each has":  {onA(lastOf(20), never, func(state int) int { return state/20*20 + (state+1)%20 }), 20},
		"to and fro, of which one has": {onA(lastOf(40), func(state int) int { return max(state-1, -1) }, next), 40},
	} {
		least := wantLeast(t, c.d)
		wantTwos(t, c.d)
		if len(least.Rows) != c.many {
			t.Errorf("%s: %d states, not %d", what, len(least.Rows), c.many)
		}
		if c.many == 40 && !impl.DfaSame(least, c.d) {
			t.Errorf("%s: it is another machine:\n%s", what, dfaText(least))
		}
	}
}

// States that differ only behind a long text are told apart, and by that.
func TestLeastOfStatesThatDifferBehindLongTexts(t *testing.T) {
	for many := 2; many <= 40; many++ {
		d := chainMachine(many)
		wantTwo(t, d, 0, 1, false, strings.Repeat("a", many-2))
		if least := impl.LeastOf(d); !impl.DfaSame(least, d) {
			t.Fatalf("%d states in a row: they are %d", many, len(least.Rows))
		}
		// All have come to a rule, and differ by where no more states are.
		all := onA(accsBy(many, func(int) int { return 4 }), never, func(state int) int { return (state+2)%(many+1) - 1 })
		wantTwo(t, all, 0, 1, false, strings.Repeat("a", many-1))
		if least := impl.LeastOf(all); !impl.DfaSame(least, all) {
			t.Fatalf("%d states in a row that have all come to a rule: they are %d", many, len(least.Rows))
		}
	}
	// From 0 on one goes by an a and by a b along two ways that are alike but for their last states, or quite.
	for size := 1; size <= 19; size++ {
		text := "part 0-96,99-255\npart 97\npart 98\n0 -1 -1 1 " + fmt.Sprint(1+size) + "\n"
		for state := 1; state <= 2*size; state++ {
			if state%size == 0 {
				text += fmt.Sprintln(state, state/size-1, -1, -1, -1)
			} else {
				text += fmt.Sprintln(state, -1, state+1, -1, -1)
			}
		}
		d := readDfa(t, text)
		wantTwo(t, d, 1, 1+size, false, strings.Repeat("\x00", size-1))
		if least := wantLeast(t, d); len(least.Rows) != len(d.Rows) || len(least.Parts) != 3 {
			t.Errorf("two ways of %d: %d states and %d parts", size, len(least.Rows), len(least.Parts))
		}
		d.Acc[2*size] = 0
		wantTwo(t, d, 1, 1+size, true, "")
		if least := wantLeast(t, d); len(least.Rows) != 1+size {
			t.Errorf("two ways of %d that are one: %d states", size, len(least.Rows))
		}
	}
}

// Each byte is a part of its own: the smallest has as few as tell its states apart.
func TestLeastOfEachByteApart(t *testing.T) {
	d := machineOf(t, rulesBy(eachByteApart(), notRex(byteRex(0))))
	least := wantLeast(t, d)
	wantTwos(t, d)
	if len(d.Parts) != 256 || len(least.Parts) != 256 {
		t.Errorf("%d parts, of %d", len(least.Parts), len(d.Parts))
	}
	each := impl.Dfa{Rows: make([][]int, 40)}
	for state := range each.Rows {
		each.Acc = append(each.Acc, state%4)
	}
	for b := range 256 {
		each.Parts = append(each.Parts, []impl.Span{{Lo: b, Hi: b}})
		for state := range each.Rows {
			each.Rows[state] = append(each.Rows[state], (state+b)%40)
		}
	}
	if least := wantLeast(t, each); len(least.Parts) != 4 || len(least.Rows) != 4 || impl.SetSize(least.Parts[3]) != 64 {
		t.Errorf("it is\n%s", dfaText(least))
	}
	for _, two := range [][2]int{{0, 4}, {0, 39}, {1, 37}, {38, 39}} {
		same, want := plainTwo(each, plainApart(each), two[0], two[1])
		wantTwo(t, each, two[0], two[1], same, want)
	}
	each.Acc[39], each.Rows[39][255] = -1, -1
	if least := wantLeast(t, each); len(least.Parts) != 41 || len(least.Rows) != 40 {
		t.Errorf("it is\n%s", dfaText(least))
	}
}

// However many parts there are, two states may differ by one of them alone; and however many states, two parts may at one of these alone.
func TestLeastOfWhatDiffersAtOnePlaceAlone(t *testing.T) {
	for b := range 256 {
		d := impl.Dfa{Rows: make([][]int, 3), Acc: []int{-1, 0, 0}}
		for other := range 256 {
			d.Parts = append(d.Parts, []impl.Span{{Lo: other, Hi: other}})
			itself := -1
			if other == b {
				itself = 1
			}
			d.Rows[0], d.Rows[1], d.Rows[2] = append(d.Rows[0], 1+other%2), append(d.Rows[1], itself), append(d.Rows[2], -1)
		}
		wantTwo(t, d, 1, 2, false, string([]byte{byte(b)}))
		if least := wantLeast(t, d); len(least.Rows) != 3 || len(least.Parts) != 3 {
			t.Fatalf("by byte %d alone: it is\n%s", b, dfaText(least))
		}
	}
	for state := range 40 {
		d := chainMachine(40)
		for other, row := range d.Rows {
			back := -1
			if other == state {
				back = 0
			}
			d.Rows[other] = append(row, back, -1)
		}
		d.Parts = [][]impl.Span{{{Lo: 0, Hi: 96}, {Lo: 100, Hi: 255}}, {{Lo: 97, Hi: 97}}, {{Lo: 98, Hi: 98}}, {{Lo: 99, Hi: 99}}}
		least := wantLeast(t, d)
		if len(least.Rows) != 40 || len(least.Parts) != 3 || impl.SetText(least.Parts[0]) != "0-96,99-255" || impl.SetText(least.Parts[2]) != "98" {
			t.Fatalf("at state %d alone: it is\n%s", state, dfaText(least))
		}
	}
}

// spreadDfa leads to few states by many ways, so that some of them are often alike.
func spreadDfa(d *dice, states, parts, accs int) impl.Dfa {
	out := impl.Dfa{Acc: accsBy(states, func(int) int { return d.upTo(accs+1) - 1 })}
	of := make([]flags, parts)
	for b := range 256 {
		// Each part has a byte that is its own; what is left is dealt out in runs.
		place := min(b, parts-1)
		if b >= parts {
			place = d.upTo(parts)
			if d.upTo(4) > 0 {
				place = b / 40 % parts
			}
		}
		of[place][b] = true
	}
	for _, f := range of {
		out.Parts = append(out.Parts, f.spans())
	}
	few := 1 + d.upTo(states+1)
	for range states {
		var row []int
		for range parts {
			row = append(row, min(d.upTo(few+1), states)-1)
		}
		out.Rows = append(out.Rows, row)
	}
	return out
}

// A smallest machine is met by many others: so many of these are made that all kinds of them are.
func TestLeastOfSpreadOnes(t *testing.T) {
	var d dice = 53
	met := map[string]int{}
	for turn := range 3000 {
		m := spreadDfa(&d, 1+d.upTo(7), 1+d.upTo(4), 1+d.upTo(3))
		least := wantAllOf(t, m)
		if turn%5 == 0 {
			wantTwos(t, least)
		}
		if len(least.Rows) < len(m.Rows) && len(least.Rows) > 1 {
			met["fewer states"]++
		}
		if len(least.Parts) < len(m.Parts) && len(least.Parts) > 1 {
			met["fewer parts"]++
		}
		if slices.Contains(plainLive(m), false) {
			met["for nothing"]++
		}
		if len(least.Rows) == 1 && least.Acc[0] < 0 {
			met["no rule"]++
		}
		if len(least.Rows) == len(m.Rows) {
			met["as many"]++
		}
	}
	for _, what := range []string{"fewer states", "fewer parts", "for nothing", "no rule", "as many"} {
		if met[what] < 100 {
			t.Errorf("%s: %d", what, met[what])
		}
	}
	for range 60 {
		m := spreadDfa(&d, 20+d.upTo(21), 1+d.upTo(6), 1+d.upTo(2))
		wantLeast(t, m)
		wantTwos(t, m)
	}
}

// allSmallDfas tells each machine of so many states and parts, with one rule or none.
func allSmallDfas(states, parts int, tell func(d impl.Dfa)) {
	d := impl.Dfa{Acc: make([]int, states)}
	for part := range parts {
		d.Parts = append(d.Parts, flagsBy(func(b int) bool { return b%parts == part }).spans())
	}
	ways := 1 << states
	for range states {
		d.Rows = append(d.Rows, make([]int, parts))
		for range parts {
			ways *= states + 1
		}
	}
	for way := range ways {
		for state := range states {
			d.Acc[state] = way%2 - 1
			way /= 2
			for part := range parts {
				d.Rows[state][part] = way%(states+1) - 1
				way /= states + 1
			}
		}
		tell(d)
	}
}

func TestLeastOfAllSmallOnes(t *testing.T) {
	for _, size := range [][2]int{{1, 1}, {1, 2}, {1, 3}, {2, 1}, {2, 2}, {3, 1}} {
		allSmallDfas(size[0], size[1], func(d impl.Dfa) { wantAllOf(t, d) })
	}
	turn := 0
	allSmallDfas(3, 2, func(d impl.Dfa) {
		turn++
		if turn%11 == 0 {
			wantAllOf(t, d)
		}
	})
}

// blownUp is a machine that comes to the same with each text: states are there more than once, in another order but for the first one, parts are cut, and -1 is a state from which one comes to no rule.
func blownUp(d *dice, m impl.Dfa) impl.Dfa {
	var of []int
	for len(of) < len(m.Rows)+d.upTo(12) {
		of = append(of, len(of)%(len(m.Rows)+1)-1)
	}
	for state := range m.Rows {
		if !slices.Contains(of, state) {
			of = append(of, state)
		}
	}
	for i := range of {
		j := d.upTo(i + 1)
		of[i], of[j] = of[j], of[i]
	}
	first := slices.Index(of, 0)
	of[0], of[first] = of[first], of[0]
	var out impl.Dfa
	var from []int
	for i, part := range m.Parts {
		// A piece may come to stand behind other parts, or their pieces: all are sorted then.
		cut := flagsBy(func(int) bool { return d.upTo(3) == 0 })
		one, other := flagsOf(part), flagsOf(part)
		for b := range cut {
			one[b], other[b] = one[b] && cut[b], other[b] && !cut[b]
		}
		for _, f := range []flags{one, other} {
			if spans := f.spans(); len(spans) > 0 {
				out.Parts, from = append(out.Parts, spans), append(from, i)
			}
		}
	}
	order := accsBy(len(from), func(i int) int { return i })
	slices.SortFunc(order, func(i, j int) int { return out.Parts[i][0].Lo - out.Parts[j][0].Lo })
	var sorted [][]impl.Span
	for _, i := range order {
		sorted = append(sorted, out.Parts[i])
	}
	out.Parts = sorted
	someOf := func(state int) int {
		at := d.upTo(len(of))
		for tries := 0; of[at] != state; tries++ {
			if state < 0 && tries == len(of) {
				return -1
			}
			at = (at + 1) % len(of)
		}
		if state < 0 && d.upTo(2) == 0 {
			return -1
		}
		return at
	}
	for _, state := range of {
		var row []int
		for _, i := range order {
			row = append(row, someOf(stepOf(m, state, from[i])))
		}
		out.Rows, out.Acc = append(out.Rows, row), append(out.Acc, accOf(m, state))
	}
	return out
}

// All machines that come to the same have one and the same smallest one.
func TestLeastOfIsOneForAllThatComeToTheSame(t *testing.T) {
	var d dice = 59
	more := 0
	for range 500 {
		m := spreadDfa(&d, 1+d.upTo(12), 1+d.upTo(4), 1+d.upTo(3))
		large := blownUp(&d, m)
		if !plainDfaOk(large) {
			t.Fatalf("it is not ok:\n%s", dfaText(large))
		}
		least := wantLeast(t, large)
		if want := impl.LeastOf(m); !impl.DfaSame(least, want) {
			t.Fatalf("%sand\n%scome to the same, but the smallest are\n%s and\n%s", dfaText(m), dfaText(large), dfaText(want), dfaText(least))
		}
		if len(large.Rows) > len(least.Rows)+5 && len(large.Parts) > len(least.Parts) {
			more++
		}
	}
	if more < 100 {
		t.Errorf("only %d are larger", more)
	}
}

// Rules that mean the same have one smallest machine, however they are written.
func TestLeastOfRulesThatMeanTheSame(t *testing.T) {
	for _, same := range [][]string{
		{"a: or cat set 97 set 98 cat set 99 set 98\n", "a: cat set 97,99 set 98\n", "x: cat or set 97 set 99 set 98\n", "a: and cat set 97,99 set 98 not empty\n"},
		{"a: star set 97\n", "a: star star set 97\n", "a: or empty cat set 97 star set 97\n", "a: star or set 97 cat set 97 set 97\n", "a: or star cat set 97 set 97 cat set 97 star cat set 97 set 97\n"},
		{"a: set no\n", "a: and set 97 set 98\n", "a: and set 97 not set 97\n", "a: cat set 97 set no\n", "a: not star set 0-255\n", "a: and empty not empty\n", "a: set no\nb: and empty set 9\n", "a: cat set 97 and set 98 empty\n"},
		{"a: not set no\n", "a: star set 0-255\n", "a: or set 97 not set 97\n", "a: or empty cat set 0-255 star set 0-255\n", "a: not set no\nb: set 97\n"},
		{"a: not empty\n", "a: cat set 0-255 star set 0-255\n", "a: cat star set 0-255 set 0-255\n"},
		{"a: set 97\nb: set 97-98\n", "a: set 97\nb: set 98\n", "a: set 97\nb: or set 98 set 97\nc: set 97-98\n", "a: set 97\nb: cat set 98 empty\nc: and set 98 set 97\n"},
		{"a: empty\n", "a: star set no\n", "a: star empty\n", "a: not not empty\n", "a: and empty star set 97\n"},
		{"key: cat set 105 set 102\nid: cat set 97-122 star set 97-122\n", "key: cat set 105 set 102\nid: and star set 97-122 not or empty cat set 105 set 102\n"},
	} {
		first := wantAllOf(t, machineOf(t, readRules(t, same[0])))
		for _, rules := range same[1:] {
			if least := wantAllOf(t, machineOf(t, readRules(t, rules))); !impl.DfaSame(least, first) {
				t.Errorf("%q and %q: the smallest are\n%s and\n%s", same[0], rules, dfaText(first), dfaText(least))
			}
		}
	}
	apart := []string{"a: set 97\n", "a: set no\nb: set 97\n", "a: set 98\n", "a: star set 97\n", "a: set 97\nb: set 98\n", "a: set 98\nb: set 97\n", "a: set 97-98\n", "a: empty\n", "a: not empty\n", "a: set no\n"}
	for i, rules := range apart {
		for _, others := range apart[:i] {
			if impl.DfaSame(impl.LeastOf(machineOf(t, readRules(t, rules))), impl.LeastOf(machineOf(t, readRules(t, others)))) {
				t.Errorf("%q and %q have one smallest machine", rules, others)
			}
		}
	}
}

// With each text the smallest comes to the first rule that the text is like, as its rules do.
func TestLeastMeansTheRules(t *testing.T) {
	var d dice = 61
	met := map[int]int{}
	fewer := 0
	for _, list := range slices.Concat(spreadRules(letterRexes(300), 400), spreadRules(busyRexes(300), 60), spreadRules(smallRexes(4), 150)) {
		m, ok := impl.DfaOf(list)
		if !ok {
			continue
		}
		least := wantLeast(t, m)
		if len(least.Rows) < len(m.Rows) {
			fewer++
		}
		texts := textsOf("ab", 3)
		for range 25 {
			texts = append(texts, letterText(&d, d.upTo(impl.MatchMax+1)))
		}
		for _, text := range texts {
			first := impl.RulesFirst(list, text)
			if got := impl.DfaRule(least, text); got != first {
				t.Fatalf("%q: %q comes to rule %d, and the first that it is like is %d", plainRulesText(list), text, got, first)
			}
			met[first]++
		}
		for range 3 {
			text := letterText(&d, d.upTo(300))
			if got, want := impl.DfaRule(least, text), impl.DfaRule(m, text); got != want {
				t.Fatalf("%q: %q comes to rule %d, not %d", plainRulesText(list), text, got, want)
			}
		}
	}
	for first := -1; first < 5; first++ {
		if met[first] < 100 {
			t.Errorf("rule %d was met only %d times", first, met[first])
		}
	}
	if fewer < 50 {
		t.Errorf("only %d have fewer states", fewer)
	}
}

func TestLeastMeansTheRulesOfALexer(t *testing.T) {
	list := readRules(t, "key: cat set 105 set 102\nid: cat set 97-122 star or set 97-122 set 48-57\nnum: cat set 48-57 star set 48-57\nop: set 43,45,61\nany: not empty\n")
	least := wantAllOf(t, machineOf(t, list))
	for _, text := range textsOf("if1+", 5) {
		if got, want := impl.DfaRule(least, text), impl.RulesFirst(list, text); got != want {
			t.Errorf("%q comes to rule %d, not %d", text, got, want)
		}
	}
	wantAllOf(t, impl.LeastOf(machineOf(t, wordRules(12, 12, 12, 3))))
	if least := wantLeast(t, machineOf(t, rulesBy(orRex(wordRex('a', 6), wordRex('b', 6))))); len(least.Rows) != 12 || len(least.Parts) != 3 {
		t.Errorf("%d states", len(least.Rows))
	}
	if least := wantLeast(t, machineOf(t, rulesBy(catRex(setRex(impl.Span{Lo: 'a', Hi: 'b'}), wordRex('c', 9))))); len(least.Rows) != 11 {
		t.Errorf("%d states", len(least.Rows))
	}
}

// leastMachines is such of which an answer may share memory: with rows that are one list, and with none that change.
func leastMachines(t *testing.T) []impl.Dfa {
	t.Helper()
	var d dice = 67
	out := append(okMachines(t), chainMachine(40), readDfa(t, noRuleAt), readDfa(t, partAll+"0 -1 0\n"), readDfa(t, partsA+"0 0 0 1\n1 1 -1 -1\n"))
	for range 60 {
		out = append(out, spreadDfa(&d, 1+d.upTo(7), 1+d.upTo(4), 1+d.upTo(3)))
	}
	for _, m := range wrongNumbers(handMachine()) {
		out = append(out, m)
	}
	return out
}

func TestLeastChangesNoArgument(t *testing.T) {
	for _, d := range leastMachines(t) {
		given := roomyDfa(d)
		before := wholeDfa(given)
		live, kinds, least := impl.LeastLive(given), impl.LeastKinds(given), impl.LeastOf(given)
		same, text := impl.LeastTwo(given, 0, len(d.Rows)-1)
		if !plainDfaSame(wholeDfa(given), before) {
			t.Fatalf("%v is changed", d)
		}
		wantSame, want := impl.LeastTwo(d, 0, len(d.Rows)-1)
		if !slices.Equal(live, impl.LeastLive(d)) || !slices.Equal(kinds, impl.LeastKinds(d)) || !plainDfaSame(least, impl.LeastOf(d)) || same != wantSame || text != want {
			t.Fatalf("%v: what lies behind the ends of lists counts", d)
		}
	}
}

func TestLeastIsNewMemory(t *testing.T) {
	for _, d := range leastMachines(t) {
		given := roomyDfa(d)
		before := wholeDfa(given)
		live, kinds, least := impl.LeastLive(given), impl.LeastKinds(given), impl.LeastOf(given)
		otherLive, otherKinds, otherLeast := impl.LeastLive(given), impl.LeastKinds(given), impl.LeastOf(given)
		for _, part := range least.Parts[len(least.Parts):cap(least.Parts)] {
			if cap(part) > 0 {
				t.Fatalf("%v: there is a part behind the end of the answer", d)
			}
		}
		for _, row := range least.Rows[len(least.Rows):cap(least.Rows)] {
			if cap(row) > 0 {
				t.Fatalf("%v: there is a row behind the end of the answer", d)
			}
		}
		wantLive, wantKinds, want := slices.Clone(live), slices.Clone(kinds), copyDfa(least)
		for i, is := range live[:cap(live)] {
			live[:cap(live)][i] = !is
		}
		for i := range kinds[:cap(kinds)] {
			kinds[:cap(kinds)][i] = -50
		}
		if !scribbleDfa(least) {
			t.Fatalf("%v: two lists of the answer share memory", d)
		}
		if !plainDfaSame(wholeDfa(given), before) {
			t.Fatalf("%v: an answer shares memory with the argument", d)
		}
		if !slices.Equal(otherLive, wantLive) || !slices.Equal(otherKinds, wantKinds) || !plainDfaSame(otherLeast, want) {
			t.Fatalf("%v: two answers share memory", d)
		}
		if !slices.Equal(impl.LeastLive(given), wantLive) || !slices.Equal(impl.LeastKinds(given), wantKinds) || !plainDfaSame(impl.LeastOf(given), want) {
			t.Fatalf("%v: an answer shares memory with what is kept", d)
		}
	}
}

// No call hangs on those ahead of it, nor on those beside it.
func TestLeastKeepsNothing(t *testing.T) {
	list := leastMachines(t)
	answer := func(d impl.Dfa) string {
		same, text := impl.LeastTwo(d, 0, len(d.Rows)-1)
		return fmt.Sprint(impl.LeastLive(d), impl.LeastKinds(d), same, []byte(text), dfaText(impl.LeastOf(d)))
	}
	first := make([]string, len(list))
	for i, d := range list {
		first[i] = answer(d)
	}
	for worker := range 4 {
		t.Run(fmt.Sprint("worker ", worker), func(t *testing.T) {
			t.Parallel()
			for i := len(list) - 1; i >= 0; i-- {
				impl.LeastOf(list[(i+worker)%len(list)])
				if got := answer(list[i]); got != first[i] {
					t.Fatalf("%v: another answer than the first time", list[i])
				}
			}
		})
	}
}
