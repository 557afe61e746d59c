package tests

import (
	"fmt"
	"math"
	"slices"
	"strings"
	"testing"

	"loop.example/carding/impl"
)

// plainLargest is the machine of rules that are ok as the words say, each state sought among all others, where so many states and parts are no more than may be.
func plainLargest(list []impl.Rule, most, parts int) (impl.Dfa, bool) {
	var sets [][]impl.Span
	states := [][]impl.Rex{nil}
	for _, x := range list {
		sets = append(sets, plainSets(x.Rex)...)
		states[0] = append(states[0], plainNorm(x.Rex))
	}
	d := impl.Dfa{Parts: impl.SetParts(sets)}
	for place := 0; place < len(states); place++ {
		var row []int
		for _, part := range d.Parts {
			left, greatest := leftOfEach(states[place], part[0].Lo)
			next := plainPlace(states, left)
			if next == len(states) {
				if len(states) == most || greatest > parts {
					return impl.Dfa{}, false
				}
				states = append(states, left)
			}
			row = append(row, next)
		}
		d.Rows = append(d.Rows, row)
		d.Acc = append(d.Acc, slices.IndexFunc(states[place], likeEmpty))
	}
	return d, true
}

func plainDfa(list []impl.Rule) (impl.Dfa, bool) { return plainLargest(list, 40, 120) }

// leftOfEach is what is left of each behind a byte, and how many parts the greatest has.
func leftOfEach(state []impl.Rex, b int) (out []impl.Rex, greatest int) {
	for _, r := range state {
		left := plainLeft(r, b)
		out, greatest = append(out, left), max(greatest, plainMany(left))
	}
	return out, greatest
}

// plainPlace is -1 where all are nothing, and behind all states where they are none of these.
func plainPlace(states [][]impl.Rex, left []impl.Rex) int {
	if !slices.ContainsFunc(left, func(r impl.Rex) bool { return !plainNothing(r) }) {
		return -1
	}
	for place, state := range states {
		if slices.EqualFunc(state, left, plainSame) {
			return place
		}
	}
	return len(states)
}

// plainDfaOk asks byte by byte and number by number.
func plainDfaOk(d impl.Dfa) bool {
	var in [256]int
	last := -1
	for _, part := range d.Parts {
		f := flagsOf(part)
		if !slices.Equal(f.spans(), part) || len(part) == 0 || part[0].Lo <= last {
			return false
		}
		last = part[0].Lo
		for b := range f {
			if f[b] {
				in[b]++
			}
		}
	}
	for _, n := range in {
		if n != 1 {
			return false
		}
	}
	for _, row := range d.Rows {
		for _, next := range row {
			if next < -1 || next >= len(d.Rows) {
				return false
			}
		}
		if len(row) != len(d.Parts) {
			return false
		}
	}
	for _, acc := range d.Acc {
		if acc < -1 || acc > 4 {
			return false
		}
	}
	return len(d.Rows) >= 1 && len(d.Rows) <= 40 && len(d.Acc) == len(d.Rows)
}

func plainDfaSame(a, b impl.Dfa) bool {
	return slices.EqualFunc(a.Parts, b.Parts, slices.Equal[[]impl.Span]) && slices.EqualFunc(a.Rows, b.Rows, slices.Equal[[]int]) && slices.Equal(a.Acc, b.Acc)
}

// plainNext is for a machine that is ok, and a state and a byte that there are.
func plainNext(d impl.Dfa, state, b int) int {
	for i, part := range d.Parts {
		if flagsOf(part)[b] {
			return d.Rows[state][i]
		}
	}
	return -1
}

// plainTable is the next state for each state and byte of a machine that is ok.
func plainTable(d impl.Dfa) [][256]int {
	out := make([][256]int, len(d.Rows))
	for i, part := range d.Parts {
		for b, in := range flagsOf(part) {
			for state, row := range d.Rows {
				if in {
					out[state][b] = row[i]
				}
			}
		}
	}
	return out
}

func tableRun(table [][256]int, text string) int {
	state := 0
	for i := 0; i < len(text) && state >= 0; i++ {
		state = table[state][text[i]]
	}
	return state
}

func copyDfa(d impl.Dfa) impl.Dfa {
	out := impl.Dfa{Acc: slices.Clone(d.Acc)}
	for _, part := range d.Parts {
		out.Parts = append(out.Parts, slices.Clone(part))
	}
	for _, row := range d.Rows {
		out.Rows = append(out.Rows, slices.Clone(row))
	}
	return out
}

// dfaText is a line for each part, and one for each state, of its number, its rule and its row.
func dfaText(d impl.Dfa) string {
	text := ""
	for _, part := range d.Parts {
		text += "part " + impl.SetText(part) + "\n"
	}
	for state, row := range d.Rows {
		text += fmt.Sprint(state, " ", d.Acc[state])
		for _, next := range row {
			text += fmt.Sprint(" ", next)
		}
		text += "\n"
	}
	return text
}

// wantMachine holds the machine of rules that are ok against the plain one.
func wantMachine(t *testing.T, list []impl.Rule) (impl.Dfa, bool) {
	t.Helper()
	want, can := plainDfa(list)
	got, ok := impl.DfaOf(list)
	if ok != can || !plainDfaSame(got, want) {
		t.Fatalf("%q: %t and\n%s, not %t and\n%s", plainRulesText(list), ok, dfaText(got), can, dfaText(want))
	}
	if ok != impl.DfaOk(got) || ok != plainDfaOk(got) {
		t.Fatalf("%q: its machine is ok: %t", plainRulesText(list), impl.DfaOk(got))
	}
	if !impl.DfaSame(got, copyDfa(got)) {
		t.Fatalf("%q: its machine is not the same as a copy", plainRulesText(list))
	}
	return got, ok
}

// machineOf is for rules of which there is one.
func machineOf(t *testing.T, list []impl.Rule) impl.Dfa {
	t.Helper()
	d, ok := wantMachine(t, list)
	if !ok {
		t.Fatalf("%q: there is no machine", plainRulesText(list))
	}
	return d
}

// wantNoMachine asks for nothing and false.
func wantNoMachine(t *testing.T, what string, list []impl.Rule) {
	t.Helper()
	d, ok := impl.DfaOf(list)
	if ok || len(d.Parts) != 0 || len(d.Rows) != 0 || len(d.Acc) != 0 {
		t.Errorf("%s: a machine of %d parts and %d states, %t", what, len(d.Parts), len(d.Rows), ok)
	}
}

// wantWrongDfa asks for each fixed answer of a machine that is not ok.
func wantWrongDfa(t *testing.T, what string, d impl.Dfa) {
	t.Helper()
	if impl.DfaOk(d) {
		t.Errorf("%s: it is ok", what)
	}
	for _, state := range []int{0, 1, 2, -1, 39, 40, math.MaxInt, math.MinInt} {
		for _, b := range []int{0, 97, 98, 255, -1, 256} {
			if next := impl.DfaNext(d, state, b); next != -1 {
				t.Errorf("%s: from state %d behind byte %d: %d", what, state, b, next)
			}
		}
	}
	for _, text := range []string{"", "a", "b", "ab", "\x00", "\xff", strings.Repeat("a", 300)} {
		if state := impl.DfaRun(d, text); state != -1 {
			t.Errorf("%s: behind %.20q: state %d", what, text, state)
		}
		if acc := impl.DfaRule(d, text); acc != -1 {
			t.Errorf("%s: behind %.20q: rule %d", what, text, acc)
		}
	}
}

// wantNexts asks for the next states behind all bytes.
func wantNexts(t *testing.T, d impl.Dfa) {
	t.Helper()
	for state := range d.Rows {
		for b := range 256 {
			if next := impl.DfaNext(d, state, b); next != plainNext(d, state, b) {
				t.Fatalf("%s from state %d behind byte %d: %d", dfaText(d), state, b, next)
			}
		}
	}
}

// wantRun asks for the state and the rule behind a text.
func wantRun(t *testing.T, d impl.Dfa, text string, state, acc int) {
	t.Helper()
	if got := impl.DfaRun(d, text); got != state {
		t.Fatalf("%sbehind %.60q (%d bytes): state %d, not %d", dfaText(d), text, len(text), got, state)
	}
	if got := impl.DfaRule(d, text); got != acc {
		t.Fatalf("%sbehind %.60q (%d bytes): rule %d, not %d", dfaText(d), text, len(text), got, acc)
	}
}

func TestDfaOfFewRules(t *testing.T) {
	a, ab := "part 0-96,98-255\npart 97\n", "part 0-96,99-255\npart 97\npart 98\n"
	for rules, want := range map[string]string{
		"key: cat set 105 set 102\nid: cat set 97-122 star set 97-122\n": "part 0-96,123-255\npart 97-101,103-104,106-122\npart 102\npart 105\n0 -1 -1 1 1 2\n1 1 -1 1 1 1\n2 1 -1 1 3 1\n3 0 -1 1 1 1\n",

		"a: empty\n":                          "part 0-255\n0 0 -1\n",
		"a: not set no\n":                     "part 0-255\n0 0 0\n",
		"a: not empty\n":                      "part 0-255\n0 -1 1\n1 0 1\n",
		"a: set 97\n":                         a + "0 -1 -1 1\n1 0 -1 -1\n",
		"a: set 0-255\n":                      "part 0-255\n0 -1 1\n1 0 -1\n",
		"a: star set 97\n":                    a + "0 0 -1 0\n",
		"a: star set 0-255\n":                 "part 0-255\n0 0 0\n",
		"a: not set 97\n":                     a + "0 0 1 2\n1 0 1 1\n2 -1 1 1\n",
		"a: cat set 97 set 98\n":              ab + "0 -1 -1 1 -1\n1 -1 -1 -1 2\n2 0 -1 -1 -1\n",
		"a: cat set 98 set 97\n":              ab + "0 -1 -1 -1 1\n1 -1 -1 2 -1\n2 0 -1 -1 -1\n",
		"a: star cat set 97 set 98\n":         ab + "0 0 -1 1 -1\n1 -1 -1 -1 0\n",
		"a: cat star set 97 set 98\n":         ab + "0 -1 -1 0 1\n1 0 -1 -1 -1\n",
		"a: set 97\nb: set 97\n":              a + "0 -1 -1 1\n1 0 -1 -1\n",
		"a: set 97\nb: set 98\n":              ab + "0 -1 -1 1 2\n1 0 -1 -1 -1\n2 1 -1 -1 -1\n",
		"a: set 98\nb: set 97\n":              ab + "0 -1 -1 1 2\n1 1 -1 -1 -1\n2 0 -1 -1 -1\n",
		"a: empty\nb: star set 97\n":          a + "0 0 -1 1\n1 1 -1 1\n",
		"a: star set 97\nb: empty\n":          a + "0 0 -1 1\n1 0 -1 1\n",
		"a: star set 97\nb: star set 97-98\n": ab + "0 0 -1 0 1\n1 1 -1 1 1\n",
		"a: set 0\nb: set 255\n":              "part 0\npart 1-254\npart 255\n0 -1 1 -1 2\n1 0 -1 -1 -1\n2 1 -1 -1 -1\n",
		"a: set 97\nb: set 97\nc: set 97\nd: empty\ne: set 97\n": a + "0 3 -1 1\n1 0 -1 -1\n",
	} {
		if got := dfaText(machineOf(t, readRules(t, rules))); got != want {
			t.Errorf("%q:\n%s, not\n%s", rules, got, want)
		}
	}
}

// A rule of nothing counts for nothing, but is there; where all that is left is nothing there is no state, but for the first one.
func TestDfaOfNothing(t *testing.T) {
	a, ab := "part 0-96,98-255\npart 97\n", "part 0-96,99-255\npart 97\npart 98\n"
	for rules, want := range map[string]string{
		"none: set no\n":                    "part 0-255\n0 -1 -1\n",
		"a: set no\nb: set no\n":            "part 0-255\n0 -1 -1\n",
		"a: set no\nb: set 97\n":            a + "0 -1 -1 1\n1 1 -1 -1\n",
		"a: set 97\nb: set no\n":            a + "0 -1 -1 1\n1 0 -1 -1\n",
		"a: set no\nb: empty\n":             "part 0-255\n0 1 -1\n",
		"a: set no\nb: not set no\n":        "part 0-255\n0 1 0\n",
		"a: not set no\nb: set no\n":        "part 0-255\n0 0 0\n",
		"a: cat set no set 97\n":            a + "0 -1 -1 -1\n",
		"a: cat set 97 set no\n":            a + "0 -1 -1 -1\n",
		"a: and set 97 set 98\n":            ab + "0 -1 -1 -1 -1\n",
		"a: and set no set 97\n":            a + "0 -1 -1 -1\n",
		"a: or not set no set 97\n":         a + "0 0 0 0\n",
		"a: star set no\n":                  "part 0-255\n0 0 -1\n",
		"a: star cat set 97 set no\n":       a + "0 0 -1 -1\n",
		"a: not not set no\n":               "part 0-255\n0 -1 -1\n",
		"a: cat set 97 not not set no\n":    a + "0 -1 -1 -1\n",
		"a: set 97\nb: cat set 97 set 97\n": a + "0 -1 -1 1\n1 0 -1 2\n2 1 -1 -1\n",
	} {
		if got := dfaText(machineOf(t, readRules(t, rules))); got != want {
			t.Errorf("%q:\n%s, not\n%s", rules, got, want)
		}
	}
}

// What no text is like, but is not the set of no bytes, is not nothing: it is a state.
func TestDfaOfWhatIsNotSeenToBeNothing(t *testing.T) {
	for rules, want := range map[string]string{
		"a: not star set 0-255\n":     "part 0-255\n0 -1 0\n",
		"a: and empty not empty\n":    "part 0-255\n0 -1 -1\n",
		"a: and set 97 not set 97\n":  "part 0-96,98-255\npart 97\n0 -1 -1 1\n1 -1 -1 -1\n",
		"a: not or empty not empty\n": "part 0-255\n0 -1 -1\n",
	} {
		if got := dfaText(machineOf(t, readRules(t, rules))); got != want {
			t.Errorf("%q:\n%s, not\n%s", rules, got, want)
		}
	}
}

func TestDfaOfAllSmallOnes(t *testing.T) {
	for many := 1; many <= 4; many++ {
		for _, r := range smallRexes(many) {
			machineOf(t, rulesBy(r))
			machineOf(t, rulesBy(byteRex('b'), r))
			machineOf(t, rulesBy(r, starRex(byteRex('a')), notRex(r)))
		}
	}
	for _, a := range smallRexes(2) {
		for _, b := range smallRexes(3) {
			machineOf(t, rulesBy(a, b))
			machineOf(t, rulesBy(b, a))
		}
	}
}

func TestDfaOfSpreadOnes(t *testing.T) {
	told, none := 0, 0
	lists := slices.Concat(spreadRules(letterRexes(300), 600), spreadRules(busyRexes(400), 100), spreadRules(spreadRexes(), 50))
	for _, list := range lists {
		if _, ok := wantMachine(t, list); ok {
			told++
		} else {
			none++
		}
	}
	if told < 500 || none < 30 {
		t.Errorf("%d have a machine, %d have none", told, none)
	}
}

// Its parts are those of all sets of the rules as they were given, also of such as are not in what is simpler.
func TestDfaPartsAreOfAllSets(t *testing.T) {
	ands := rulesBy(catRex(setRex(), byteRex(9)), orRex(allRex(), byteRex(3)), starRex(andRex(setRex(), setRex(impl.Span{Lo: 250, Hi: 255}))))
	d := machineOf(t, ands)
	var got []string
	for _, part := range d.Parts {
		got = append(got, impl.SetText(part))
	}
	if want := []string{"0-2,4-8,10-249", "3", "9", "250-255"}; !slices.Equal(got, want) {
		t.Errorf("parts %q, not %q", got, want)
	}
	for _, list := range spreadRules(letterRexes(100), 100) {
		var sets [][]impl.Span
		for _, x := range list {
			sets = append(sets, plainSets(x.Rex)...)
		}
		if d, ok := impl.DfaOf(list); ok && !slices.EqualFunc(d.Parts, impl.SetParts(sets), slices.Equal[[]impl.Span]) {
			t.Errorf("%q: parts %v", plainRulesText(list), d.Parts)
		}
	}
}

// eachByteApart has a part for each byte.
func eachByteApart() impl.Rex {
	return evenTree(impl.RexCat, 8, func(i int) impl.Rex { return setRex(flagsBy(func(b int) bool { return b>>i&1 == 1 }).spans()...) })
}

func TestDfaOfEachByteApart(t *testing.T) {
	d := machineOf(t, rulesBy(eachByteApart(), notRex(byteRex(0))))
	if len(d.Parts) != 256 {
		t.Fatalf("%d parts", len(d.Parts))
	}
	wantNexts(t, d)
	wantRun(t, d, "\xff\xff\xff\xff\xff\xff\xff\xff", impl.DfaRun(d, "\x01\x02\x04\x08\x10\x20\x40\x80"), 0)
	wantRun(t, d, "\x00", d.Rows[0][0], -1)
	for place := range 8 {
		text := []byte("\x01\x02\x04\x08\x10\x20\x40\x80")
		text[place] = ^text[place]
		if acc := impl.DfaRule(d, string(text)); acc != 1 {
			t.Errorf("%q: rule %d", text, acc)
		}
	}
}

// wordRex is like the text of that many of one byte, and no deeper than it must be.
func wordRex(b, size int) impl.Rex {
	if size == 1 {
		return byteRex(b)
	}
	return catRex(wordRex(b, size/2), wordRex(b, size-size/2))
}

// wordRules is a rule for each word, each of a byte of its own: there is a state ahead of them all, and one behind each byte of each.
func wordRules(sizes ...int) []impl.Rule {
	var out []impl.Rex
	for i, size := range sizes {
		out = append(out, wordRex('a'+i, size))
	}
	return rulesBy(out...)
}

func TestDfaOf40StatesAndOneMore(t *testing.T) {
	five, eight := starRex(wordRex('a', 5)), starRex(wordRex('a', 8))
	forty, more := readRex(t, fortyLeft), readRex(t, oneMoreLeft)
	behind := func(r impl.Rex) impl.Rex { return catRex(byteRex('c'), r) }
	for i, c := range []struct {
		list []impl.Rule
		many int
	}{
		{wordRules(12, 12, 12, 2), 39},
		{wordRules(12, 12, 12, 3), 40},
		{wordRules(12, 12, 12, 4), 41},
		{wordRules(3, 12, 12, 12), 40},
		{wordRules(4, 12, 12, 12), 41},
		{wordRules(8, 8, 8, 8, 7), 40},
		{wordRules(8, 8, 8, 8, 8), 41},
		{wordRules(12, 12, 12, 12, 12), 61},
		{rulesBy(five, eight), 40},
		{rulesBy(eight, five), 40},
		{rulesBy(setRex(), five, setRex(), eight), 40},
		{rulesBy(five, starRex(byteRex('a')), eight), 40},
		{rulesBy(five, allRex(), eight), 41},
		{rulesBy(five, eight, emptyRex()), 41},
		{rulesBy(five, eight, byteRex('a')), 42},
		{rulesBy(five, eight, byteRex('b')), 42},
		{rulesBy(forty), 39},
		{rulesBy(behind(forty)), 40},
		{rulesBy(behind(behind(forty))), 41},
		{rulesBy(more), 40},
		{rulesBy(behind(more)), 41},
		{rulesBy(setRex(), more), 40},
		{rulesBy(more, setRex(), more), 40},
		{rulesBy(setRex(), behind(more)), 41},
	} {
		d, ok := plainLargest(c.list, 99, 120)
		if !ok || len(d.Rows) != c.many {
			t.Errorf("list %d: %d states, not %d", i, len(d.Rows), c.many)
		}
		if got, ok := wantMachine(t, c.list); ok != (c.many <= 40) || ok && len(got.Rows) != c.many {
			t.Errorf("list %d: %d states, %t", i, len(got.Rows), ok)
		}
		if c.many > 40 {
			wantNoMachine(t, fmt.Sprint("list ", i), c.list)
		}
	}
}

func TestDfaOf120PartsAndOneMore(t *testing.T) {
	full, more := readRex(t, "star cat star set 97 star cat cat set 97 set 97 set 97"), readRex(t, "star not star or cat set 98 set 97-98 star set 98")
	for i, r := range []impl.Rex{full, more} {
		_, less := plainLargest(rulesBy(r), 40, 119+i)
		if _, ok := plainLargest(rulesBy(r), 40, 120+i); !ok || less {
			t.Fatalf("%q: not of %d parts", plainText(r), 120+i)
		}
	}
	others := []impl.Rex{setRex(), emptyRex(), allRex(), byteRex(99), starRex(byteRex(97))}
	for many := 1; many <= 5; many++ {
		for place := range many {
			for turn := range len(others) {
				var of []impl.Rex
				for i := range many {
					of = append(of, others[(i+turn)%len(others)])
				}
				of[place] = full
				machineOf(t, rulesBy(of...))
				of[place] = more
				wantNoMachine(t, fmt.Sprint("place ", place, " of ", many), rulesBy(of...))
				wantMachine(t, rulesBy(of...))
			}
		}
	}
	big := starRex(evenTree(impl.RexCat, 8, func(int) impl.Rex { return starRex(byteRex('a')) }))
	wantNoMachine(t, "more behind the first byte", rulesBy(big))
	wantNoMachine(t, "more behind the first byte, and too many states", append(wordRules(12, 12, 12, 12), rule("e", big)))
}

// Norm of what is ok may be deeper than that: it has a machine all the same.
func TestDfaOfWhatIsTooDeepThen(t *testing.T) {
	for _, kind := range []int{impl.RexCat, impl.RexOr, impl.RexAnd} {
		r := evenTree(kind, 8, func(i int) impl.Rex { return starRex(setRex(impl.Span{Lo: 97, Hi: 97 + i})) })
		if !impl.RexOk(r) || impl.RexOk(impl.Norm(r)) {
			t.Fatalf("%q is not ok, or Norm of it is", plainText(r))
		}
		wantMachine(t, rulesBy(r))
		wantMachine(t, rulesBy(byteRex('a'), r))
	}
	leaf := func(i int) impl.Rex { return setRex(impl.Span{Lo: 97, Hi: 97 + i}) }
	wantMachine(t, rulesBy(starRex(fullTree(12, leaf))))
	for how, by := range wraps() {
		if _, ok := wantMachine(t, rulesBy(around(byteRex(97), 7, by))); !ok {
			t.Errorf("7 of %s: no machine", how)
		}
	}
}

func TestDfaOfWrongRules(t *testing.T) {
	for many := range 40 {
		if many == 0 || many > 5 {
			wantNoMachine(t, fmt.Sprint(many, " rules"), fewRules(many))
		} else {
			machineOf(t, fewRules(many))
		}
	}
	wantNoMachine(t, "none, with room", fewRules(3)[:0])
	wantNoMachine(t, "very many rules", make([]impl.Rule, 1<<20))
	for many := 1; many <= 5; many++ {
		for place := range many {
			for _, name := range wrongNames() {
				list := fewRules(many)
				list[place].Name = name
				wantNoMachine(t, fmt.Sprintf("%.40q at place %d of %d", name, place, many), list)
			}
			for what, part := range wrongParts() {
				list := fewRules(many)
				list[place].Rex = part
				wantNoMachine(t, fmt.Sprint(what, " at place ", place, " of ", many), list)
				list[place].Rex = catRex(setRex(), part)
				wantNoMachine(t, fmt.Sprint(what, " within place ", place, " of ", many), list)
			}
			for other := range place {
				list := fewRules(many)
				list[place].Name = list[other].Name
				wantNoMachine(t, fmt.Sprint("one name at ", other, " and ", place), list)
			}
		}
	}
	leaf := func(int) impl.Rex { return byteRex(97) }
	stars := func(_ int, r impl.Rex) impl.Rex { return starRex(r) }
	for what, r := range map[string]impl.Rex{
		"25 parts": fullTree(13, leaf), "26 parts": starRex(fullTree(13, leaf)), "8 around": around(byteRex(97), 8, stars), "100000 around": around(byteRex(97), 100000, stars),
		"a ring of stars": ring(3, impl.RexStar, 1), "a ring of cats": ring(2, impl.RexCat, 2), "too many kids": {Kind: impl.RexOr, Kids: make([]impl.Rex, 200000)},
		"too broad": around(emptyRex(), 200, func(_ int, r impl.Rex) impl.Rex { return catRex(r, r) }),
	} {
		wantNoMachine(t, what, rulesBy(r))
		wantNoMachine(t, what+" behind others", rulesBy(byteRex(97), setRex(), r))
	}
}

// The machine comes, with each text, to just the first rule that the text is like.
func TestDfaMeansTheRules(t *testing.T) {
	var d dice = 41
	met := map[int]int{}
	for i, list := range append(spreadRules(letterRexes(300), 500), spreadRules(smallRexes(4), 150)...) {
		m, ok := impl.DfaOf(list)
		if !ok {
			continue
		}
		texts := textsOf("ab", 3)
		for range 25 {
			texts = append(texts, letterText(&d, d.upTo(impl.MatchMax+1)))
		}
		for j, text := range texts {
			first := impl.RulesFirst(list, text)
			if got := impl.DfaRule(m, text); got != first || (i+j)%9 == 0 && got != plainFirst(list, text) {
				t.Fatalf("%q: %q comes to rule %d, and the first that it is like is %d", plainRulesText(list), text, got, first)
			}
			met[first]++
		}
	}
	for first := -1; first < 5; first++ {
		if met[first] < 100 {
			t.Errorf("rule %d was met only %d times", first, met[first])
		}
	}
}

func TestDfaMeansTheRulesOfALexer(t *testing.T) {
	list := readRules(t, "key: cat set 105 set 102\nid: cat set 97-122 star or set 97-122 set 48-57\nnum: cat set 48-57 star set 48-57\nop: set 43,45,61\nany: not empty\n")
	d := machineOf(t, list)
	for text, want := range map[string]int{"if": 0, "i": 1, "f": 1, "iff": 1, "fi": 1, "x1": 1, "1": 2, "42": 2, "+": 3, "=": 3, "==": 4, "1x": 4, "If": 4, "\x00": 4, "\xff\xfe": 4, "": -1} {
		if got := impl.DfaRule(d, text); got != want || impl.RulesFirst(list, text) != want {
			t.Errorf("%q comes to rule %d, not %d", text, got, want)
		}
	}
	for _, text := range textsOf("if1+", 5) {
		if got, want := impl.DfaRule(d, text), impl.RulesFirst(list, text); got != want {
			t.Errorf("%q comes to rule %d, not %d", text, got, want)
		}
	}
	// A text may be of any length here.
	for size := range 300 {
		want := 1
		if size == 0 {
			want = -1
		}
		if got := impl.DfaRule(d, strings.Repeat("i", size)); got != want {
			t.Errorf("%d bytes come to rule %d, not %d", size, got, want)
		}
	}
}

// With each rule that stands ahead the others count less; in another order another one counts.
func TestDfaOfRulesInEachOrder(t *testing.T) {
	texts := textsOf("ab", 3)
	of := []impl.Rex{starRex(byteRex('a')), catRex(byteRex('a'), starRex(setRex(impl.Span{Lo: 'a', Hi: 'b'}))), notRex(catRex(byteRex('a'), byteRex('b'))), allRex()}
	for bits := range 256 {
		list := rulesBy(of[bits&3], of[bits>>2&3], of[bits>>4&3], of[bits>>6&3])
		d := machineOf(t, list)
		for _, text := range texts {
			if got, want := impl.DfaRule(d, text), plainFirst(list, text); got != want {
				t.Fatalf("%q: %q comes to rule %d, not %d", plainRulesText(list), text, got, want)
			}
		}
	}
}

// Every state is come to, with a text that is found on the way: each new one behind all others, in the order of states and parts.
func TestDfaStatesAreComeTo(t *testing.T) {
	lists := slices.Concat(spreadRules(letterRexes(300), 400), spreadRules(busyRexes(300), 60), [][]impl.Rule{wordRules(12, 12, 12, 3)})
	for _, list := range lists {
		d, ok := impl.DfaOf(list)
		if !ok {
			continue
		}
		texts := []string{""}
		for state, row := range d.Rows {
			if state >= len(texts) {
				t.Fatalf("%q: state %d is not come to\n%s", plainRulesText(list), state, dfaText(d))
			}
			for i, next := range row {
				if next > len(texts) {
					t.Fatalf("%q: state %d is ahead of one that is found first\n%s", plainRulesText(list), next, dfaText(d))
				}
				if next == len(texts) {
					texts = append(texts, texts[state]+string([]byte{byte(d.Parts[i][0].Lo)}))
				}
			}
		}
		for state, text := range texts {
			wantRun(t, d, text, state, d.Acc[state])
			if len(text) <= impl.MatchMax && impl.RulesFirst(list, text) != d.Acc[state] {
				t.Fatalf("%q: state %d has come to rule %d with %q", plainRulesText(list), state, d.Acc[state], text)
			}
		}
	}
}

// A state is just these: two of them differ in what is left of some rule, and one is the same wherever it is come to.
func TestDfaStatesAreWhatIsLeft(t *testing.T) {
	for _, list := range spreadRules(letterRexes(200), 200) {
		d, ok := impl.DfaOf(list)
		if !ok {
			continue
		}
		places := map[string]int{}
		for _, text := range textsOf("abc", 4) {
			state := impl.DfaRun(d, text)
			key := ""
			for _, x := range list {
				key += plainText(plainBehind(x.Rex, text)) + "\n"
			}
			if text != "" && key == strings.Repeat("set no\n", len(list)) {
				if state != -1 {
					t.Fatalf("%q: nothing is left behind %q, which comes to state %d", plainRulesText(list), text, state)
				}
				continue
			}
			if other, had := places[key]; had && other != state || state < 0 {
				t.Fatalf("%q: %q is left behind %q, which comes to state %d, and another time %d", plainRulesText(list), key, text, state, other)
			}
			places[key] = state
		}
		var met [impl.DfaMax]int
		for key, state := range places {
			met[state]++
			if met[state] > 1 {
				t.Fatalf("%q: state %d is also %q", plainRulesText(list), state, key)
			}
		}
	}
}

// handMachine is of four parts and three states, and ok; those of its numbers that may be greatest and least are.
func handMachine() impl.Dfa {
	return impl.Dfa{
		Parts: [][]impl.Span{{{Lo: 0, Hi: 96}, {Lo: 99, Hi: 254}}, {{Lo: 97, Hi: 97}}, {{Lo: 98, Hi: 98}}, {{Lo: 255, Hi: 255}}},
		Rows:  [][]int{{-1, 1, 2, 0}, {1, -1, 0, 2}, {2, 2, -1, -1}},
		Acc:   []int{-1, 4, 0},
	}
}

// okMachines is such at the edges of what is ok, and such that rules have.
func okMachines(t *testing.T) []impl.Dfa {
	t.Helper()
	one := impl.Dfa{Parts: [][]impl.Span{{{Lo: 0, Hi: 255}}}, Rows: [][]int{{-1}}, Acc: []int{-1}}
	each := impl.Dfa{Rows: [][]int{nil, nil}, Acc: []int{4, -1}}
	for b := range 256 {
		each.Parts = append(each.Parts, []impl.Span{{Lo: b, Hi: b}})
		each.Rows[0], each.Rows[1] = append(each.Rows[0], b%3-1), append(each.Rows[1], b%2)
	}
	even := flagsBy(func(b int) bool { return b%2 == 0 }).spans()
	combs := impl.Dfa{Parts: [][]impl.Span{even, flagsBy(func(b int) bool { return b%2 == 1 }).spans()}, Rows: [][]int{{1, 0}, {1, -1}}, Acc: []int{0, 1}}
	shared := []int{0, 1, -1, 2}
	alike := handMachine()
	alike.Rows = [][]int{shared, shared, shared}
	out := []impl.Dfa{one, {Parts: one.Parts, Rows: [][]int{{0}}, Acc: []int{4}}, each, combs, handMachine(), alike, ringMachine(39), ringMachine(40)}
	for _, list := range append(spreadRules(letterRexes(60), 40), fewRules(5), wordRules(12, 12, 12, 3)) {
		if d, ok := impl.DfaOf(list); ok {
			out = append(out, d)
		}
	}
	return out
}

// ringMachine goes from each state to the next one, and from the last one to the first.
func ringMachine(states int) impl.Dfa {
	d := impl.Dfa{Parts: [][]impl.Span{{{Lo: 0, Hi: 96}, {Lo: 98, Hi: 255}}, {{Lo: 97, Hi: 97}}}}
	for state := range states {
		d.Rows = append(d.Rows, []int{-1, (state + 1) % states})
		d.Acc = append(d.Acc, state%6-1)
	}
	return d
}

// wrongMachines is a copy each of a machine that is ok, with one thing changed.
func wrongMachines(base impl.Dfa) map[string]impl.Dfa {
	out := map[string]impl.Dfa{}
	add := func(what string, change func(d *impl.Dfa)) {
		d := copyDfa(base)
		change(&d)
		out[what] = d
	}
	for i := range base.Parts {
		for j, spans := range wrongSets() {
			add(fmt.Sprint("part ", i, " is not ok: ", j), func(d *impl.Dfa) { d.Parts[i] = spans })
			add(fmt.Sprint("part ", i, " is not ok at its end: ", j), func(d *impl.Dfa) { d.Parts[i] = append(d.Parts[i], spans...) })
		}
		add(fmt.Sprint("part ", i, " is empty"), func(d *impl.Dfa) { d.Parts[i] = nil })
		add(fmt.Sprint("part ", i, " has all bytes"), func(d *impl.Dfa) { d.Parts[i] = allBytes })
		add(fmt.Sprint("part ", i, " is left out"), func(d *impl.Dfa) { dropPart(d, i) })
		add(fmt.Sprint("part ", i, " is not there, the rows are as they were"), func(d *impl.Dfa) { d.Parts = slices.Delete(d.Parts, i, i+1) })
		add(fmt.Sprint("part ", i, " is there twice"), func(d *impl.Dfa) { putPart(d, i, slices.Clone(d.Parts[i])) })
		for j := range i {
			add(fmt.Sprint("parts ", j, " and ", i, " are in each other's place"), func(d *impl.Dfa) { d.Parts[i], d.Parts[j] = d.Parts[j], d.Parts[i] })
			add(fmt.Sprint("a byte of part ", j, " is in part ", i, " too"), func(d *impl.Dfa) {
				f, g := flagsOf(d.Parts[i]), flagsOf(d.Parts[j])
				last := d.Parts[j][len(d.Parts[j])-1].Hi
				f[last] = g[last]
				d.Parts[i] = f.spans()
			})
			add(fmt.Sprint("a byte of part ", i, " is in part ", j, " too"), func(d *impl.Dfa) {
				f := flagsOf(d.Parts[j])
				f[d.Parts[i][0].Lo] = true
				d.Parts[j] = f.spans()
			})
		}
	}
	for i := range len(base.Parts) + 1 {
		for what, part := range map[string][]impl.Span{"nil": nil, "of none": {}, "of all bytes": allBytes} {
			add(fmt.Sprint("a part more, at ", i, ", ", what), func(d *impl.Dfa) { putPart(d, i, part) })
		}
	}
	for b := range 256 {
		if 3 < b && b < 253 && (b < 95 || b > 100) && b%32 != 0 {
			continue
		}
		add(fmt.Sprint("byte ", b, " is in no part"), func(d *impl.Dfa) {
			for i, part := range d.Parts {
				f := flagsOf(part)
				f[b] = false
				d.Parts[i] = f.spans()
			}
		})
		// Where that was all of a part, the others are left, and their numbers.
		add(fmt.Sprint("byte ", b, " is in none of those that are left"), func(d *impl.Dfa) {
			for i := len(d.Parts) - 1; i >= 0; i-- {
				f := flagsOf(d.Parts[i])
				f[b] = false
				d.Parts[i] = f.spans()
				if len(d.Parts[i]) == 0 {
					dropPart(d, i)
				}
			}
		})
	}
	return out
}

func dropPart(d *impl.Dfa, i int) {
	d.Parts = slices.Delete(d.Parts, i, i+1)
	for state, row := range d.Rows {
		d.Rows[state] = slices.Delete(row, i, i+1)
	}
}

func putPart(d *impl.Dfa, i int, part []impl.Span) {
	d.Parts = slices.Insert(d.Parts, i, part)
	for state, row := range d.Rows {
		d.Rows[state] = slices.Insert(row, i, -1)
	}
}

// wrongNumbers is a copy each of a machine that is ok, with a row, a next state or a rule changed.
func wrongNumbers(base impl.Dfa) map[string]impl.Dfa {
	out := map[string]impl.Dfa{}
	add := func(what string, change func(d *impl.Dfa)) {
		d := copyDfa(base)
		change(&d)
		out[what] = d
	}
	many := len(base.Rows)
	for state, row := range base.Rows {
		for part := range row {
			for _, next := range []int{-2, -3, -many, many, many + 1, 40, 41, 256, 1 << 32, -1 << 32, math.MaxInt, math.MinInt} {
				if next < -1 || next >= many {
					add(fmt.Sprint("from state ", state, " part ", part, " leads to ", next), func(d *impl.Dfa) { d.Rows[state][part] = next })
				}
			}
			add(fmt.Sprint("row ", state, " ends at ", part), func(d *impl.Dfa) { d.Rows[state] = row[:part] })
		}
		add(fmt.Sprint("row ", state, " is nil"), func(d *impl.Dfa) { d.Rows[state] = nil })
		add(fmt.Sprint("row ", state, " has one more"), func(d *impl.Dfa) { d.Rows[state] = append(d.Rows[state], -1) })
		add(fmt.Sprint("row ", state, " has very many more"), func(d *impl.Dfa) { d.Rows[state] = append(d.Rows[state], make([]int, 1<<16)...) })
		add(fmt.Sprint("row ", state, " is not there"), func(d *impl.Dfa) { d.Rows = slices.Delete(d.Rows, state, state+1) })
		for _, acc := range []int{-2, -3, 5, 6, 255, 1 << 32, -1 << 32, math.MaxInt, math.MinInt} {
			add(fmt.Sprint("state ", state, " has come to ", acc), func(d *impl.Dfa) { d.Acc[state] = acc })
		}
		add(fmt.Sprint("Acc ends at ", state), func(d *impl.Dfa) { d.Acc = d.Acc[:state] })
	}
	add("Acc is nil", func(d *impl.Dfa) { d.Acc = nil })
	add("Acc has one more", func(d *impl.Dfa) { d.Acc = append(d.Acc, -1) })
	add("a row more", func(d *impl.Dfa) { d.Rows = append(d.Rows, slices.Clone(d.Rows[0])) })
	add("no state", func(d *impl.Dfa) { d.Rows, d.Acc = nil, nil })
	add("no state, lists of none", func(d *impl.Dfa) { d.Rows, d.Acc = [][]int{}, []int{} })
	add("no rows", func(d *impl.Dfa) { d.Rows = nil })
	add("no parts", func(d *impl.Dfa) { d.Parts = nil })
	add("no parts, and rows of none", func(d *impl.Dfa) {
		d.Parts = nil
		for state := range d.Rows {
			d.Rows[state] = nil
		}
	})
	return out
}

func TestDfaOkOfOnesThatAre(t *testing.T) {
	for _, d := range okMachines(t) {
		if !impl.DfaOk(d) || !plainDfaOk(d) {
			t.Fatalf("it is not ok:\n%s", dfaText(d))
		}
		wantNexts(t, d)
		wantRun(t, d, "", 0, d.Acc[0])
	}
}

func TestDfaOkOfWrongOnes(t *testing.T) {
	one := impl.Dfa{Parts: [][]impl.Span{{{Lo: 0, Hi: 255}}}, Rows: [][]int{{0}}, Acc: []int{0}}
	for _, base := range []impl.Dfa{handMachine(), one, ringMachine(40), machineOf(t, fewRules(2))} {
		for what, d := range wrongNumbers(base) {
			wantWrongDfa(t, what, d)
		}
	}
	for _, base := range []impl.Dfa{handMachine(), machineOf(t, fewRules(2))} {
		for what, d := range wrongMachines(base) {
			if plainDfaOk(d) {
				t.Errorf("%s: it is plainly ok", what)
			}
			wantWrongDfa(t, what, d)
		}
	}
	wantWrongDfa(t, "nothing", impl.Dfa{})
	wantWrongDfa(t, "one state, no parts", impl.Dfa{Rows: [][]int{nil}, Acc: []int{-1}})
	wantWrongDfa(t, "one state of all bytes, without its part", impl.Dfa{Rows: [][]int{{0}}, Acc: []int{0}})
	for _, many := range []int{0, 41, 42, 80, 256, 1 << 16} {
		wantWrongDfa(t, fmt.Sprint(many, " states"), ringMachine(many))
	}
	d := handMachine()
	d.Parts = slices.Repeat(d.Parts, 1<<16)
	wantWrongDfa(t, "very many parts", d)
	d.Parts = make([][]impl.Span, 1<<20)
	wantWrongDfa(t, "very many parts of none", d)
	d = handMachine()
	d.Parts[0] = make([]impl.Span, 1<<20)
	wantWrongDfa(t, "very many spans", d)
}

func TestDfaOkOf40StatesAndOneMore(t *testing.T) {
	for many := range 50 {
		d := ringMachine(many)
		if ok := impl.DfaOk(d); ok != (many >= 1 && many <= 40) {
			t.Errorf("%d states: %t", many, ok)
		}
		if many >= 1 && many <= 40 {
			for size := range 100 {
				wantRun(t, d, strings.Repeat("a", size), size%many, size%many%6-1)
			}
			wantRun(t, d, strings.Repeat("a", many-1), many-1, (many-1)%6-1)
		}
	}
}

// A little changed, a machine is ok just if it is plainly so.
func TestDfaOkOfChangedOnes(t *testing.T) {
	var d dice = 43
	is, not := 0, 0
	for _, base := range okMachines(t) {
		for range 60 {
			m := copyDfa(base)
			for range 1 + d.upTo(2) {
				nudge(&d, &m)
			}
			if want := plainDfaOk(m); impl.DfaOk(m) != want {
				t.Fatalf("ok: %t, not %t: %v", !want, want, m)
			} else if want {
				is++
			} else {
				not++
			}
		}
	}
	if is < 100 || not < 500 {
		t.Errorf("%d are ok, %d are not", is, not)
	}
}

// nudge changes a number by one, moves a byte from a part to another one, or takes a list away or puts it twice.
func nudge(d *dice, m *impl.Dfa) {
	some := func(n int) int { return d.upTo(max(n, 1)) }
	part, state := some(len(m.Parts)), some(len(m.Rows))
	if len(m.Parts) == 0 || len(m.Rows) == 0 || len(m.Acc) == 0 {
		return
	}
	switch d.upTo(8) {
	case 0:
		if len(m.Rows[state]) > 0 {
			m.Rows[state][some(len(m.Rows[state]))] += 1 - 2*d.upTo(2)
		}
	case 1:
		m.Acc[some(len(m.Acc))] += 1 - 2*d.upTo(2)
	case 2:
		if len(m.Parts[part]) > 0 {
			m.Parts[part][some(len(m.Parts[part]))].Hi += 1 - 2*d.upTo(2)
		}
	case 3, 4:
		b, to := d.upTo(256), some(len(m.Parts))
		for i := range m.Parts {
			f := flagsOf(m.Parts[i])
			f[b] = i == to
			m.Parts[i] = f.spans()
		}
	case 5:
		m.Rows[state] = slices.Clone(m.Rows[some(len(m.Rows))])
	case 6:
		other := some(len(m.Parts))
		m.Parts[part], m.Parts[other] = m.Parts[other], m.Parts[part]
	default:
		m.Rows, m.Acc = append(m.Rows, slices.Clone(m.Rows[state])), append(m.Acc, m.Acc[0])
	}
}

func TestDfaNextOfStatesAndBytesThatAreNone(t *testing.T) {
	for _, d := range okMachines(t) {
		many := len(d.Rows)
		for _, b := range []int{0, 97, 98, 255} {
			for _, state := range append(oddPlaces(), many, many+1, -many, 40, 41) {
				if next := impl.DfaNext(d, state, b); next != -1 && (state < 0 || state >= many) {
					t.Fatalf("from state %d of %d behind byte %d: %d", state, many, b, next)
				}
			}
		}
		for state := range many {
			for _, b := range append(noByteNumbers(), 256+97, 256+98) {
				if next := impl.DfaNext(d, state, b); next != -1 {
					t.Fatalf("from state %d of %d behind byte %d: %d", state, many, b, next)
				}
			}
		}
		for _, b := range noByteNumbers() {
			for _, state := range oddPlaces() {
				if next := impl.DfaNext(d, state, b); next != -1 && (state < 0 || state >= many || b < 0 || b > 255) {
					t.Fatalf("from state %d of %d behind byte %d: %d", state, many, b, next)
				}
			}
		}
	}
}

// DfaRun is DfaNext of each byte, and DfaRule what the state has come to then.
func TestDfaRunIsByteByByte(t *testing.T) {
	var d dice = 47
	none := 0
	for i, m := range okMachines(t) {
		table := plainTable(m)
		for range 40 {
			text := letterText(&d, d.upTo(30))
			if i%4 == 0 {
				text += string([]byte{byte(d.upTo(256)), byte(d.upTo(256))}) + letterText(&d, d.upTo(300))
			}
			state, acc := tableRun(table, text), -1
			if state >= 0 {
				acc = m.Acc[state]
			} else {
				none++
			}
			wantRun(t, m, text, state, acc)
			if len(text) > 20 {
				continue
			}
			step := 0
			for _, b := range []byte(text) {
				step = impl.DfaNext(m, step, int(b))
			}
			if step != state {
				t.Fatalf("%q: state %d, and byte by byte %d", text, state, step)
			}
		}
	}
	if none < 200 {
		t.Errorf("only %d come to -1", none)
	}
}

// Once it is -1 it is that, whatever comes behind: -1 is not the last state, nor the first.
func TestDfaRunThatComesToNoneAndGoesOn(t *testing.T) {
	d := handMachine()
	for text, want := range map[string]int{
		"": 0, "a": 1, "b": 2, "\xff": 0, "c": -1, "\x00": -1, "ac": 1, "aa": -1, "ab": 0, "a\xff": 2, "ba": 2, "bc": 2, "bb": -1, "b\xff": -1,
		"ca": -1, "cb": -1, "c\xff": -1, "cab": -1, "c\xff\xff\xff": -1, "aaa": -1, "aab": -1, "aab\xff": -1, "aac": -1, "bba": -1, "b\xffa": -1, "b\xff\xff": -1, "abab": 0, "ababb": 2, "ababbb": -1, "ababbba": -1, "\xff\xff\xffa": 1, "acccc\xff": 2,
	} {
		acc := -1
		if want >= 0 {
			acc = d.Acc[want]
		}
		wantRun(t, d, text, want, acc)
		if want < 0 {
			for size := range 20 {
				for _, more := range []string{"a", "b", "\xff", "c", "\x00", "ab", "b\xffa"} {
					wantRun(t, d, text+strings.Repeat(more, size), -1, -1)
				}
			}
		}
	}
}

func TestDfaRunOfLongTexts(t *testing.T) {
	d := ringMachine(40)
	for _, size := range []int{200, 201, 255, 256, 257, 1<<16 - 1, 1 << 16, 1<<16 + 1, 1<<20 + 7} {
		wantRun(t, d, strings.Repeat("a", size), size%40, size%40%6-1)
		wantRun(t, d, strings.Repeat("a", size)+"b", -1, -1)
		wantRun(t, d, "b"+strings.Repeat("a", size), -1, -1)
	}
}

// dfaChanges tells a copy for each thing that can be changed in it.
func dfaChanges(d impl.Dfa, tell func(what string, other impl.Dfa)) {
	change := func(what string, by func(m *impl.Dfa)) {
		other := copyDfa(d)
		by(&other)
		tell(what, other)
	}
	for i, part := range d.Parts {
		for j := range part {
			change(fmt.Sprint("Lo of part ", i), func(m *impl.Dfa) { m.Parts[i][j].Lo++ })
			change(fmt.Sprint("Hi of part ", i), func(m *impl.Dfa) { m.Parts[i][j].Hi-- })
		}
		change(fmt.Sprint("a span more in part ", i), func(m *impl.Dfa) { m.Parts[i] = append(m.Parts[i], impl.Span{}) })
		change(fmt.Sprint("no spans in part ", i), func(m *impl.Dfa) { m.Parts[i] = nil })
		change(fmt.Sprint("part ", i, " left out"), func(m *impl.Dfa) { m.Parts = slices.Delete(m.Parts, i, i+1) })
	}
	for state, row := range d.Rows {
		for part := range row {
			change(fmt.Sprint("row ", state, " at ", part), func(m *impl.Dfa) { m.Rows[state][part]++ })
		}
		change(fmt.Sprint("row ", state, " longer"), func(m *impl.Dfa) { m.Rows[state] = append(m.Rows[state], 0) })
		change(fmt.Sprint("row ", state, " shorter"), func(m *impl.Dfa) { m.Rows[state] = row[:len(row)-1] })
		change(fmt.Sprint("row ", state, " left out"), func(m *impl.Dfa) { m.Rows = slices.Delete(m.Rows, state, state+1) })
		change(fmt.Sprint("Acc at ", state), func(m *impl.Dfa) { m.Acc[state]-- })
		change(fmt.Sprint("Acc left out at ", state), func(m *impl.Dfa) { m.Acc = slices.Delete(m.Acc, state, state+1) })
	}
	change("a part more", func(m *impl.Dfa) { m.Parts = append(m.Parts, nil) })
	change("a row more", func(m *impl.Dfa) { m.Rows = append(m.Rows, nil) })
	change("an Acc more", func(m *impl.Dfa) { m.Acc = append(m.Acc, 0) })
}

func TestDfaSameSeesEachChange(t *testing.T) {
	for _, d := range okMachines(t) {
		if !impl.DfaSame(d, copyDfa(d)) {
			t.Fatalf("not the same as a copy:\n%s", dfaText(d))
		}
		dfaChanges(d, func(what string, other impl.Dfa) {
			if same := impl.DfaSame(d, other); same || impl.DfaSame(other, d) || !impl.DfaSame(other, copyDfa(other)) {
				t.Fatalf("%s is not seen:\n%s", what, dfaText(d))
			}
		})
	}
}

func TestDfaSameOfEachTwo(t *testing.T) {
	list := append(okMachines(t), impl.Dfa{}, ringMachine(41), impl.Dfa{Acc: []int{0}}, impl.Dfa{Rows: [][]int{nil}}, impl.Dfa{Rows: [][]int{{0}}}, impl.Dfa{Parts: [][]impl.Span{nil}}, impl.Dfa{Parts: [][]impl.Span{{scribble}}})
	for _, a := range list {
		for _, b := range list {
			if same := impl.DfaSame(a, copyDfa(b)); same != plainDfaSame(a, b) {
				t.Fatalf("%v and %v: %t", a, b, same)
			}
		}
	}
	for _, d := range wrongNumbers(handMachine()) {
		if !impl.DfaSame(d, copyDfa(d)) || impl.DfaSame(d, handMachine()) || impl.DfaSame(handMachine(), d) {
			t.Fatalf("%v", d)
		}
	}
	empty := impl.Dfa{Parts: [][]impl.Span{}, Rows: [][]int{}, Acc: []int{}}
	inner, innerEmpty := impl.Dfa{Parts: [][]impl.Span{nil}, Rows: [][]int{nil}}, impl.Dfa{Parts: [][]impl.Span{{}}, Rows: [][]int{{}}, Acc: []int{}}
	if !impl.DfaSame(empty, impl.Dfa{}) || !impl.DfaSame(impl.Dfa{}, empty) || !impl.DfaSame(inner, innerEmpty) || !impl.DfaSame(innerEmpty, inner) || impl.DfaSame(inner, empty) {
		t.Error("empty and nil lists")
	}
}

// roomyNumbers is the list with room behind its end that is written full.
func roomyNumbers(list []int) []int {
	return append(slices.Clone(list), 1, 0, 2, 3)[:len(list)]
}

// roomyDfa is a copy all of whose lists have room behind their ends that is written full.
func roomyDfa(d impl.Dfa) impl.Dfa {
	out := impl.Dfa{Acc: roomyNumbers(d.Acc)}
	for _, part := range d.Parts {
		out.Parts = append(out.Parts, roomy(part))
	}
	for _, row := range d.Rows {
		out.Rows = append(out.Rows, roomyNumbers(row))
	}
	parts, rows := len(out.Parts), len(out.Rows)
	out.Parts, out.Rows = append(out.Parts, []impl.Span{scribble}, allBytes), append(out.Rows, []int{0, 0}, nil)
	out.Parts, out.Rows = slices.Clip(out.Parts)[:parts], slices.Clip(out.Rows)[:rows]
	return out
}

// wholeDfa is a copy, with what lies behind the ends of lists.
func wholeDfa(d impl.Dfa) impl.Dfa {
	out := impl.Dfa{Acc: slices.Clone(d.Acc[:cap(d.Acc)])}
	for _, part := range d.Parts[:cap(d.Parts)] {
		out.Parts = append(out.Parts, slices.Clone(whole(part)))
	}
	for _, row := range d.Rows[:cap(d.Rows)] {
		out.Rows = append(out.Rows, slices.Clone(row[:cap(row)]))
	}
	return out
}

// dfaMemory is fewer of those, as machines of many parts take their time.
func dfaMemory() [][]impl.Rule {
	var out [][]impl.Rule
	for i, list := range memoryRules() {
		if i >= 100 || i%5 == 0 {
			out = append(out, list)
		}
	}
	return out
}

func TestDfaChangesNoArgument(t *testing.T) {
	for _, list := range dfaMemory() {
		given := roomyRules(list)
		before := wholeRules(given)
		d, ok := impl.DfaOf(given)
		if !plainRulesSame(wholeRules(given), before) {
			t.Fatalf("%v are changed", list)
		}
		if want, can := impl.DfaOf(list); ok != can || !plainDfaSame(d, want) {
			t.Fatalf("%v: what lies behind the ends of lists counts", list)
		}
	}
	list := okMachines(t)
	for _, d := range wrongNumbers(handMachine()) {
		list = append(list, d)
	}
	for i, d := range list {
		given, other := roomyDfa(d), roomyDfa(list[i*7%len(list)])
		before, otherBefore := wholeDfa(given), wholeDfa(other)
		ok, next, state, acc := impl.DfaOk(given), impl.DfaNext(given, 0, 'a'), impl.DfaRun(given, "ab"), impl.DfaRule(given, "ab")
		impl.DfaSame(given, other)
		impl.DfaSame(given, roomyDfa(d))
		if !plainDfaSame(wholeDfa(given), before) || !plainDfaSame(wholeDfa(other), otherBefore) {
			t.Fatalf("%v is changed", d)
		}
		if ok != impl.DfaOk(d) || next != impl.DfaNext(d, 0, 'a') || state != impl.DfaRun(d, "ab") || acc != impl.DfaRule(d, "ab") || !impl.DfaSame(given, d) {
			t.Fatalf("%v: what lies behind the ends of lists counts", d)
		}
	}
}

// scribbleDfa writes something of its own into each list of an answer, spare room included, and says whether no two of them share any.
func scribbleDfa(d impl.Dfa) bool {
	var sets [][]impl.Span
	for _, part := range d.Parts[:cap(d.Parts)] {
		sets = append(sets, whole(part))
	}
	numbers := [][]int{d.Acc[:cap(d.Acc)]}
	for _, row := range d.Rows[:cap(d.Rows)] {
		numbers = append(numbers, row[:cap(row)])
	}
	for i, list := range numbers {
		for j := range list {
			list[j] = -100 - i
		}
	}
	alone := scribbleOver(sets, nil)
	for i, list := range numbers {
		alone = alone && !slices.ContainsFunc(list, func(n int) bool { return n != -100-i })
	}
	for i := range d.Parts[:cap(d.Parts)] {
		d.Parts[:cap(d.Parts)][i] = []impl.Span{scribble}
	}
	for i := range d.Rows[:cap(d.Rows)] {
		d.Rows[:cap(d.Rows)][i] = []int{-77}
	}
	return alone
}

func TestDfaOfIsNewMemory(t *testing.T) {
	lists := append(dfaMemory(), wordRules(12, 12, 12, 3), rulesBy(eachByteApart()), rulesBy(setRex(allBytes...)), rulesBy(byteRex(97), byteRex(97)))
	shared := starRex(setRex(impl.Span{Lo: 97, Hi: 98}))
	lists = append(lists, rulesBy(shared, catRex(shared, shared), notRex(shared)))
	told := 0
	for _, list := range lists {
		given := roomyRules(list)
		before := wholeRules(given)
		first, ok := impl.DfaOf(given)
		second, _ := impl.DfaOf(given)
		if !ok {
			continue
		}
		told++
		for _, part := range first.Parts[len(first.Parts):cap(first.Parts)] {
			if cap(part) > 0 {
				t.Fatalf("%q: there is a part behind the end of the answer", plainRulesText(list))
			}
		}
		for _, row := range first.Rows[len(first.Rows):cap(first.Rows)] {
			if cap(row) > 0 {
				t.Fatalf("%q: there is a row behind the end of the answer", plainRulesText(list))
			}
		}
		want := copyDfa(first)
		if !scribbleDfa(first) {
			t.Fatalf("%q: two lists of the answer share memory", plainRulesText(list))
		}
		if !plainRulesSame(wholeRules(given), before) {
			t.Fatalf("%q: the answer shares memory with the argument", plainRulesText(list))
		}
		if third, _ := impl.DfaOf(given); !plainDfaSame(second, want) || !plainDfaSame(third, want) {
			t.Fatalf("%q: two answers share memory", plainRulesText(list))
		}
	}
	if told < 60 {
		t.Errorf("only %d", told)
	}
}

// No call hangs on those ahead of it, nor on those beside it.
func TestDfaKeepsNothing(t *testing.T) {
	lists := spreadRules(letterRexes(120), 150)
	answer := func(list []impl.Rule) string {
		d, ok := impl.DfaOf(list)
		return fmt.Sprint(ok, impl.DfaOk(d), dfaText(d), impl.DfaNext(d, 0, 'a'), impl.DfaRun(d, "ab"), impl.DfaRule(d, "aba"), impl.DfaRule(d, ""))
	}
	first := make([]string, len(lists))
	for i, list := range lists {
		first[i] = answer(list)
	}
	for worker := range 4 {
		t.Run(fmt.Sprint("worker ", worker), func(t *testing.T) {
			t.Parallel()
			for i := len(lists) - 1; i >= 0; i-- {
				impl.DfaOf(lists[(i+worker)%len(lists)])
				if got := answer(lists[i]); got != first[i] {
					t.Fatalf("%q: another answer than the first time", plainRulesText(lists[i]))
				}
			}
		})
	}
}
