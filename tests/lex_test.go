package tests

import (
	"fmt"
	"math"
	"slices"
	"strings"
	"testing"

	"loop.example/carding/impl"
)

func token(rule, from, to int) impl.Token { return impl.Token{Rule: rule, From: from, To: to} }

func plainTokens(list []impl.Token) string {
	text := ""
	for i, x := range list {
		if i > 0 {
			text += " "
		}
		text += fmt.Sprintf("%d:%d-%d", x.Rule, x.From, x.To)
	}
	return text
}

// plainAt tries each end for itself, the greatest first, at a machine that is ok and a place that there is.
func plainAt(d impl.Dfa, table [][256]int, text string, at int) (int, int) {
	for to := len(text); to > at; to-- {
		if state := tableRun(table, text[at:to]); state >= 0 && d.Acc[state] >= 0 {
			return d.Acc[state], to
		}
	}
	return -1, at
}

func plainLex(d impl.Dfa, text string) ([]impl.Token, int) {
	table := plainTable(d)
	var out []impl.Token
	at := 0
	for at < len(text) {
		rule, to := plainAt(d, table, text, at)
		if rule < 0 {
			break
		}
		out = append(out, token(rule, at, to))
		at = to
	}
	return out, at
}

// plainMeans is for rules that are ok and a text that is asked of: at each place it tries each size, the greatest first, and each rule.
func plainMeans(list []impl.Rule, text string) ([]impl.Token, int) {
	var like []pieces
	for _, x := range list {
		like = append(like, piecesOf(x.Rex, text))
	}
	var out []impl.Token
	at := 0
	for at < len(text) {
		found := -1
		to := len(text)
		for ; to > at && found < 0; to-- {
			found = slices.IndexFunc(like, func(p pieces) bool { return p[at][to] })
		}
		if found < 0 {
			break
		}
		out = append(out, token(found, at, to+1))
		at = to + 1
	}
	return out, at
}

// wantFollow asks of tokens that they are pieces one behind the other, from 0 to where they end.
func wantFollow(t *testing.T, list []impl.Token, far, size int) {
	t.Helper()
	at := 0
	for _, x := range list {
		if x.From != at || x.To <= at || x.Rule < 0 || x.Rule > 4 {
			t.Fatalf("%s: %d-%d of rule %d does not follow %d", plainTokens(list), x.From, x.To, x.Rule, at)
		}
		at = x.To
	}
	if far != at || far > size {
		t.Fatalf("%s: %d is told of a text of %d bytes", plainTokens(list), far, size)
	}
}

// wantRunOf holds what a machine that is ok cuts a text into against what it plainly does.
func wantRunOf(t *testing.T, d impl.Dfa, text string) {
	t.Helper()
	want, wantFar := plainLex(d, text)
	got, far := impl.LexRun(d, text)
	if far != wantFar || !slices.Equal(got, want) {
		t.Fatalf("%s%.60q (%d bytes): %s to %d, not %s to %d", dfaText(d), text, len(text), plainTokens(got), far, plainTokens(want), wantFar)
	}
	wantFollow(t, got, far, len(text))
}

// wantAts holds what is told of each place of a text, and of such as are none, against what is plainly so.
func wantAts(t *testing.T, d impl.Dfa, text string) {
	t.Helper()
	table := plainTable(d)
	for at := range len(text) + 1 {
		rule, to := plainAt(d, table, text, at)
		wantAt(t, d, text, at, rule, to)
	}
	wantAt(t, d, text, len(text)+1, -1, len(text)+1)
	wantAt(t, d, text, -1, -1, -1)
}

func wantAt(t *testing.T, d impl.Dfa, text string, at, rule, to int) {
	t.Helper()
	if gotRule, gotTo := impl.LexAt(d, text, at); gotRule != rule || gotTo != to {
		t.Fatalf("%s%.60q (%d bytes) at %d: rule %d to %d, not %d to %d", dfaText(d), text, len(text), at, gotRule, gotTo, rule, to)
	}
}

// wantLexed asks for the tokens by their text.
func wantLexed(t *testing.T, what string, list []impl.Token, far int, want string, wantFar int) {
	t.Helper()
	if plainTokens(list) != want || far != wantFar {
		t.Errorf("%s: %q to %d, not %q to %d", what, plainTokens(list), far, want, wantFar)
	}
	if text := impl.LexText(list); text != want {
		t.Errorf("%s: the text is %q, not %q", what, text, want)
	}
}

// wantCut asks for the tokens of a text as rules mean them, and as their machine and the smallest one cut it.
func wantCut(t *testing.T, rules, text, want string, far int) {
	t.Helper()
	list := readRules(t, rules)
	d := machineOf(t, list)
	if len(text) <= impl.MatchMax {
		got, to := impl.LexMeans(list, text)
		wantLexed(t, fmt.Sprintf("%q of %q", rules, text), got, to, want, far)
		plain, plainFar := plainMeans(list, text)
		wantLexed(t, fmt.Sprintf("%q of %q plainly", rules, text), plain, plainFar, want, far)
	}
	for _, m := range []impl.Dfa{d, impl.LeastOf(d)} {
		got, to := impl.LexRun(m, text)
		wantLexed(t, fmt.Sprintf("the machine of %q of %q", rules, text), got, to, want, far)
		wantAts(t, m, text)
		wantRunOf(t, m, text)
	}
}

const (
	lexerRules = "key: cat set 105 set 102\nid: cat set 97-122 star set 97-122\nnum: cat set 48-57 star set 48-57\ngap: set 32\n"
	aOrMore    = "a: star set 97\nb: cat set 97 set 98\n"
	aOrABB     = "a: set 97\nb: cat set 97 cat set 98 set 98\n"
)

func TestLexByHand(t *testing.T) {
	for _, c := range []struct {
		rules, text, want string
		far               int
	}{
		{lexerRules, "if ifx 42?", "0:0-2 3:2-3 1:3-6 3:6-7 2:7-9", 9},
		{lexerRules, "", "", 0},
		{lexerRules, "?", "", 0},
		{lexerRules, "?if", "", 0},
		{lexerRules, "if", "0:0-2", 2},
		{lexerRules, "i", "1:0-1", 1},
		{lexerRules, "i f", "1:0-1 3:1-2 1:2-3", 3},
		{lexerRules, "ifif", "1:0-4", 4},
		{lexerRules, "if4if", "0:0-2 2:2-3 0:3-5", 5},
		{lexerRules, "   ", "3:0-1 3:1-2 3:2-3", 3},
		{lexerRules, "4 \x00 4", "2:0-1 3:1-2", 2},
		{lexerRules, "4 4\xff", "2:0-1 3:1-2 2:2-3", 3},
		{lexerRules, "not so long as they may be, but longer than one that is asked of", "1:0-3 3:3-4 1:4-6 3:6-7 1:7-11 3:11-12 1:12-14 3:14-15 1:15-19 3:19-20 1:20-23 3:23-24 1:24-26", 26},

		// What is come to at once, and what is longer.
		{aOrMore, "a", "0:0-1", 1},
		{aOrMore, "aa", "0:0-2", 2},
		{aOrMore, "ab", "1:0-2", 2},
		{aOrMore, "aabab", "0:0-2", 2},
		{aOrMore, "abab", "1:0-2 1:2-4", 4},
		{aOrMore, "abaab", "1:0-2 0:2-4", 4},
		{aOrMore, "aba", "1:0-2 0:2-3", 3},
		{aOrMore, "b", "", 0},
		{aOrMore, "ba", "", 0},

		// A longer way goes on and fails then.
		{aOrABB, "ab", "0:0-1", 1},
		{aOrABB, "aba", "0:0-1", 1},
		{aOrABB, "abb", "1:0-3", 3},
		{aOrABB, "aabb", "0:0-1 1:1-4", 4},
		{aOrABB, "abbab", "1:0-3 0:3-4", 4},
		{aOrABB, "abbabba", "1:0-3 1:3-6 0:6-7", 7},
		{aOrABB + "c: set 98\n", "abab", "0:0-1 2:1-2 0:2-3 2:3-4", 4},
		{aOrABB + "c: set 98\n", "abcb", "0:0-1 2:1-2", 2},
		{"a: set 97\nb: cat set 97 cat star set 98 set 99\nc: set 98\n", "abbbbbbb", "0:0-1 2:1-2 2:2-3 2:3-4 2:4-5 2:5-6 2:6-7 2:7-8", 8},
		{"a: set 97\nb: cat set 97 cat star set 98 set 99\nc: set 98\n", "abbbbbbc", "1:0-8", 8},
		{"a: set 97\nb: cat set 97 cat star set 98 set 99\nc: set 98\n", "abbabbc", "0:0-1 2:1-2 2:2-3 1:3-7", 7},
		{"a: star cat set 97 set 98\n", "ababa", "0:0-4", 4},
		{"a: star cat set 97 cat set 97 set 97\n", "aaaaaaaa", "0:0-6", 6},
		// The last that was come to is of another rule than those ahead of it.
		{"a: set 97\nb: cat set 97 set 97\nc: cat set 97 cat set 97 cat set 97 set 98\n", "aaaaab", "1:0-2 2:2-6", 6},
		{"a: set 97\nb: cat set 97 set 97\nc: cat set 97 cat set 97 cat set 97 set 98\n", "aaaac", "1:0-2 1:2-4", 4},

		// Two rules that match as much, and a later one that matches more.
		{"a: set 97\nb: set 97-98\n", "abba", "0:0-1 1:1-2 1:2-3 0:3-4", 4},
		{"a: set 97-98\nb: set 97\n", "abba", "0:0-1 0:1-2 0:2-3 0:3-4", 4},
		{"a: set 97\nb: cat set 97 set 97\n", "aaa", "1:0-2 0:2-3", 3},
		{"a: cat set 97 set 97\nb: set 97\n", "aaa", "0:0-2 1:2-3", 3},
		{"a: set 97\nb: set 97\nc: set 97\nd: set 97\ne: star set 97\n", "aa", "4:0-2", 2},
		{"a: set 97\nb: set 97\nc: set 97\nd: set 97\ne: star set 97\n", "a", "0:0-1", 1},
		{"a: set 98\nb: set 98\nc: set 98\nd: set 98\ne: set 97\n", "aba", "4:0-1 0:1-2 4:2-3", 3},
		{"a: cat set 97 star set 98\nb: cat star set 97 set 98\n", "abb", "0:0-3", 3},
		{"a: cat set 97 star set 98\nb: cat star set 97 set 98\n", "aab", "1:0-3", 3},
		{"a: cat set 97 star set 98\nb: cat star set 97 set 98\n", "ab", "0:0-2", 2},
		{"b: cat star set 97 set 98\na: cat set 97 star set 98\n", "ab", "0:0-2", 2},

		// Rules that are like the empty text.
		{"a: empty\n", "", "", 0},
		{"a: empty\n", "a", "", 0},
		{"a: empty\nb: set 97\n", "aab", "1:0-1 1:1-2", 2},
		{"a: star set 97\n", "b", "", 0},
		{"a: star set 97\n", "aaab", "0:0-3", 3},
		{"a: star set 97\nb: set 98\n", "aabba", "0:0-2 1:2-3 1:3-4 0:4-5", 5},
		{"a: star set 97\nb: star set 98\n", "bbabc", "1:0-2 0:2-3 1:3-4", 4},
		{"a: or empty cat set 97 set 98\nb: set 97\n", "aabab", "1:0-1 0:1-3 0:3-5", 5},
		{"a: not set 97\n", "a", "", 0},
		{"a: not set 97\n", "aa", "0:0-2", 2},
		{"a: not set no\n", "any text", "0:0-8", 8},
		{"a: not set no\n", "", "", 0},

		// Rules that no text is like.
		{"a: set no\n", "a", "", 0},
		{"a: set no\nb: set 97\n", "aa", "1:0-1 1:1-2", 2},
		{"a: and set 97 set 98\nb: cat set 97 set no\n", "ab", "", 0},

		// Bytes at the edges.
		{"a: set 0\nb: set 255\nc: set 128\n", "\x00\xff\x00\x80\x7f", "0:0-1 1:1-2 0:2-3 2:3-4", 4},
		{"a: set 195\nb: set 169\n", "éé", "0:0-1 1:1-2 0:2-3 1:3-4", 4},
		{"a: set 0-255\n", "é\n\x00", "0:0-1 0:1-2 0:2-3 0:3-4", 4},
	} {
		wantCut(t, c.rules, c.text, c.want, c.far)
	}
}

func TestLexAtByHand(t *testing.T) {
	// It goes on from state to state; state 2 has come to rule 3, and state 4 to rule 1.
	chain := partsA + "0 -1 -1 1\n1 -1 -1 2\n2 3 -1 3\n3 -1 -1 4\n4 1 -1 5\n5 -1 -1 -1\n"
	// Behind the b it never comes to a rule again, but it is in a state all the same.
	dead := partsAB + "0 -1 -1 1 2\n1 0 -1 1 2\n2 -1 2 2 2\n"
	// It has come to rule 2 in state 0, to which one comes again.
	zero := partsAB + "0 2 -1 1 -1\n1 -1 -1 -1 0\n"
	for _, c := range []struct {
		of, text     string
		at, rule, to int
	}{
		{chain, "", 0, -1, 0},
		{chain, "a", 0, -1, 0},
		{chain, "aa", 0, 3, 2},
		{chain, "aaa", 0, 3, 2},
		{chain, "aaaa", 0, 1, 4},
		{chain, "aaaaa", 0, 1, 4},
		{chain, "aaaaaa", 0, 1, 4},
		{chain, "aaaaaaaaaa", 0, 1, 4},
		{chain, "aaaaaaaaaa", 3, 1, 7},
		{chain, "aaaaaaaaaa", 6, 1, 10},
		{chain, "aaaaaaaaaa", 7, 3, 9},
		{chain, "aaaaaaaaaa", 8, 3, 10},
		{chain, "aaaaaaaaaa", 9, -1, 9},
		{chain, "aaaaaaaaaa", 10, -1, 10},
		{chain, "aaaaaaaaaa", 11, -1, 11},
		{chain, "aaaaaaaaaa", -1, -1, -1},
		{chain, "aaba", 0, 3, 2},
		{chain, "aaab", 0, 3, 2},
		{chain, "ab", 0, -1, 0},
		{chain, "baa", 0, -1, 0},
		{chain, "baa", 1, 3, 3},
		{dead, "aab", 0, 0, 2},
		{dead, "abaaa", 0, 0, 1},
		{dead, "abaaa", 1, -1, 1},
		{dead, "abaaa", 2, 0, 5},
		{dead, "baaa", 0, -1, 0},
		{dead, "ac", 0, 0, 1},
		{zero, "", 0, -1, 0},
		{zero, "a", 0, -1, 0},
		{zero, "b", 0, -1, 0},
		{zero, "c", 0, -1, 0},
		{zero, "ab", 0, 2, 2},
		{zero, "ab", 1, -1, 1},
		{zero, "ab", 2, -1, 2},
		{zero, "aba", 0, 2, 2},
		{zero, "abab", 0, 2, 4},
		{zero, "ababa", 2, 2, 4},
		{zero, "abba", 0, 2, 2},
	} {
		d := readDfa(t, c.of)
		wantAt(t, d, c.text, c.at, c.rule, c.to)
		wantAts(t, d, c.text)
		wantRunOf(t, d, c.text)
	}
}

// Where state 0 has come to a rule there is no empty token, whatever the rule is, and wherever in the text.
func TestLexMakesNoEmptyToken(t *testing.T) {
	for acc := -1; acc < 5; acc++ {
		for _, d := range []impl.Dfa{
			readDfa(t, fmt.Sprint(partAll, "0 ", acc, " -1\n")),
			readDfa(t, fmt.Sprint(partsA, "0 ", acc, " 1 -1\n1 -1 0 1\n")),
			readDfa(t, fmt.Sprint(partsA, "0 ", acc, " -1 0\n")),
			readDfa(t, fmt.Sprint(partsA, "0 ", acc, " -1 1\n1 -1 1 1\n")),
			readDfa(t, fmt.Sprint(partsA, "0 ", acc, " 1 0\n1 ", (acc+1)%5, " -1 -1\n")),
		} {
			for _, text := range textsOf("ab", 6) {
				wantRunOf(t, d, text)
				wantAts(t, d, text)
			}
		}
		none := readDfa(t, fmt.Sprint(partsA, "0 ", acc, " -1 1\n1 -1 1 1\n"))
		for _, text := range textsOf("ab", 5) {
			got, far := impl.LexRun(none, text)
			wantLexed(t, fmt.Sprint("none comes of ", acc), got, far, "", 0)
			for at := range len(text) + 1 {
				wantAt(t, none, text, at, -1, at)
			}
		}
	}
}

func TestLexAtPlacesThatAreNone(t *testing.T) {
	for _, d := range okMachines(t) {
		for _, text := range []string{"", "a", "ab", "aaaaaaaaaaaaaaaaaaaa", strings.Repeat("a", 199), strings.Repeat("a", 200)} {
			places := append(oddPlaces(), len(text)+1, len(text)+2, 2*len(text)+1, -len(text)-1, 200, 201, 202, 1<<32+len(text), -1<<32)
			for _, at := range places {
				if at < 0 || at > len(text) {
					wantAt(t, d, text, at, -1, at)
				}
			}
			wantAt(t, d, text, len(text), -1, len(text))
		}
	}
}

func TestLexOf200BytesAndOneMore(t *testing.T) {
	star := readDfa(t, partsA+"0 -1 -1 1\n1 2 -1 1\n")
	one := readDfa(t, partsA+"0 -1 -1 1\n1 3 -1 -1\n")
	ring := ringMachine(40)
	for _, size := range []int{0, 1, 198, 199, 200} {
		text := strings.Repeat("a", size)
		for _, d := range []impl.Dfa{star, one, ring} {
			wantRunOf(t, d, text)
			wantAts(t, d, text)
		}
		if got, far := impl.LexRun(one, text); len(got) != size || far != size {
			t.Errorf("%d bytes: %d tokens, to %d", size, len(got), far)
		}
		if got, far := impl.LexRun(star, text); len(got) != min(size, 1) || far != size {
			t.Errorf("%d bytes: %d tokens, to %d", size, len(got), far)
		}
		if size == 0 {
			continue
		}
		// The last byte counts as all others do.
		for _, last := range []string{"b", "\x00", "\xff"} {
			text := text[1:] + last
			got, far := impl.LexRun(one, text)
			if len(got) != size-1 || far != size-1 {
				t.Errorf("%d bytes: %d tokens, to %d", size, len(got), far)
			}
			wantAt(t, one, text, size-1, -1, size-1)
		}
		wantAt(t, one, text, size-1, 3, size)
		wantAt(t, star, text, 0, 2, size)
	}
	for _, size := range []int{201, 202, 255, 256, 257, 400, 456, 1<<16 + 1, 1 << 20} {
		text := strings.Repeat("a", size)
		for _, d := range []impl.Dfa{star, one, ring} {
			got, far := impl.LexRun(d, text)
			wantLexed(t, fmt.Sprint(size, " bytes"), got, far, "", 0)
			for _, at := range append(oddPlaces(), 0, 1, 2, 199, 200, 201, size-1, size, size+1, size-200) {
				wantAt(t, d, text, at, -1, at)
			}
		}
	}
}

// All small machines and all short texts.
func TestLexOfAllSmallOnes(t *testing.T) {
	// Where there are several parts an a and a b are in two of them.
	texts := textsOf("ab", 4)
	for _, size := range [][2]int{{1, 1}, {1, 2}, {1, 3}, {2, 1}, {2, 2}, {3, 1}} {
		allSmallDfas(size[0], size[1], func(d impl.Dfa) {
			for _, text := range texts {
				wantRunOf(t, d, text)
				wantAts(t, d, text)
			}
		})
	}
	turn := 0
	allSmallDfas(3, 2, func(d impl.Dfa) {
		turn++
		if turn%7 == 0 {
			text := texts[turn%len(texts)]
			wantRunOf(t, d, text+text)
			wantAts(t, d, text+text)
		}
	})
}

// spreadText is of bytes that lie in one of the first parts of most machines here.
func spreadText(d *dice, size int) string {
	text := make([]byte, size)
	for i := range text {
		text[i] = byte(d.upTo(5))
		if d.upTo(3) == 0 {
			text[i] = byte(d.upTo(256))
		}
	}
	return string(text)
}

func TestLexOfSpreadOnes(t *testing.T) {
	var d dice = 71
	met := map[string]int{}
	for range 1500 {
		m := spreadDfa(&d, 1+d.upTo(12), 1+d.upTo(5), 1+d.upTo(5))
		for range 4 {
			text := spreadText(&d, d.upTo(40))
			wantRunOf(t, m, text)
			got, far := impl.LexRun(m, text)
			least, leastFar := impl.LexRun(impl.LeastOf(m), text)
			if !slices.Equal(least, got) || leastFar != far {
				t.Fatalf("%s%q: the smallest cuts it into %s to %d, not %s to %d", dfaText(m), text, plainTokens(least), leastFar, plainTokens(got), far)
			}
			switch {
			case text == "":
				met["the empty text"]++
			case far == len(text):
				met["to the end"]++
			case far == 0:
				met["none"]++
			default:
				met["within"]++
			}
			if len(got) > 5 {
				met["many"]++
			}
		}
		wantAts(t, m, spreadText(&d, d.upTo(25)))
	}
	for _, what := range []string{"the empty text", "to the end", "none", "within", "many"} {
		if met[what] < 100 {
			t.Errorf("%s: %d", what, met[what])
		}
	}
	for _, m := range okMachines(t) {
		for _, size := range []int{0, 1, 7, 50, 200} {
			text := letterText(&d, size)
			wantRunOf(t, m, text)
			if size < 60 {
				wantAts(t, m, text)
			}
			wantRunOf(t, m, strings.Repeat("a", size))
		}
	}
}

// LexRun is LexAt at each place to which it comes.
func TestLexRunIsLexAtOneBehindTheOther(t *testing.T) {
	var d dice = 73
	for range 400 {
		m := spreadDfa(&d, 1+d.upTo(9), 1+d.upTo(4), 1+d.upTo(5))
		text := spreadText(&d, d.upTo(60))
		got, far := impl.LexRun(m, text)
		at := 0
		for _, x := range got {
			if rule, to := impl.LexAt(m, text, at); rule != x.Rule || to != x.To || x.From != at {
				t.Fatalf("%s%q at %d: rule %d to %d, and in the run %s", dfaText(m), text, at, rule, to, plainTokens(got))
			}
			at = x.To
		}
		if far < len(text) {
			wantAt(t, m, text, far, -1, far)
		}
		if at != far {
			t.Fatalf("%q: %s to %d", text, plainTokens(got), far)
		}
	}
}

// wantMeant holds what rules that are ok mean by a text that is asked of against what they plainly do, and tells it.
func wantMeant(t *testing.T, list []impl.Rule, text string) ([]impl.Token, int) {
	t.Helper()
	want, wantFar := plainMeans(list, text)
	got, far := impl.LexMeans(list, text)
	if far != wantFar || !slices.Equal(got, want) {
		t.Fatalf("%q mean by %q: %s to %d, not %s to %d", plainRulesText(list), text, plainTokens(got), far, plainTokens(want), wantFar)
	}
	wantFollow(t, got, far, len(text))
	return got, far
}

// wantAsMeant asks a machine for just these tokens.
func wantAsMeant(t *testing.T, what string, list []impl.Rule, d impl.Dfa, text string, meant []impl.Token, far int) {
	t.Helper()
	if got, to := impl.LexRun(d, text); to != far || !slices.Equal(got, meant) || !impl.LexSame(got, meant) {
		t.Fatalf("%q mean by %q: %s to %d, but %s cuts it into %s to %d", plainRulesText(list), text, plainTokens(meant), far, what, plainTokens(got), to)
	}
}

// Promise 9: the tokens of the machine of rules, and of the smallest one, are what the rules mean.
func TestLexIsWhatTheRulesMean(t *testing.T) {
	var d dice = 79
	met, likeEmptyOnes := map[int]int{}, 0
	ends := map[string]int{}
	for _, list := range slices.Concat(spreadRules(letterRexes(300), 500), spreadRules(busyRexes(300), 40), spreadRules(smallRexes(4), 300)) {
		m, ok := impl.DfaOf(list)
		least := impl.LeastOf(m)
		texts := textsOf("ab", 3)
		for range 12 {
			texts = append(texts, letterText(&d, d.upTo(impl.MatchMax+1)))
		}
		if slices.ContainsFunc(list, func(x impl.Rule) bool { return likeEmpty(x.Rex) }) {
			likeEmptyOnes++
		}
		for _, text := range texts {
			meant, far := wantMeant(t, list, text)
			for _, x := range meant {
				met[x.Rule]++
			}
			switch far {
			case len(text):
				ends["at the end"]++
			case 0:
				ends["at once"]++
			default:
				ends["within"]++
			}
			if ok {
				wantAsMeant(t, "the machine", list, m, text, meant, far)
				wantAsMeant(t, "the smallest", list, least, text, meant, far)
			}
		}
	}
	for rule := range 5 {
		if met[rule] < 100 {
			t.Errorf("rule %d was met only %d times", rule, met[rule])
		}
	}
	if ends["at the end"] < 1000 || ends["at once"] < 1000 || ends["within"] < 500 || likeEmptyOnes < 100 {
		t.Errorf("%v, %d", ends, likeEmptyOnes)
	}
}

// At each place it is the longest piece that is like some rule, and of these rules the first; where it ends no piece is like any.
func TestLexTakesTheLongestAndTheFirst(t *testing.T) {
	var d dice = 83
	for i, list := range slices.Concat(spreadRules(letterRexes(200), 200), spreadRules(smallRexes(3), 100)) {
		text := letterText(&d, i%(impl.MatchMax+1))
		got, far := impl.LexMeans(list, text)
		for _, x := range got {
			if first := impl.RulesFirst(list, text[x.From:x.To]); first != x.Rule {
				t.Fatalf("%q: rule %d of %q, of which the first is %d", plainRulesText(list), x.Rule, text[x.From:x.To], first)
			}
			for to := x.To + 1; to <= len(text); to++ {
				if first := impl.RulesFirst(list, text[x.From:to]); first != -1 {
					t.Fatalf("%q: %q is a token, and %q is longer", plainRulesText(list), text[x.From:x.To], text[x.From:to])
				}
			}
		}
		for to := far + 1; to <= len(text); to++ {
			if impl.RulesFirst(list, text[far:to]) != -1 {
				t.Fatalf("%q: it ends ahead of %q", plainRulesText(list), text[far:to])
			}
		}
	}
}

func TestLexIsWhatTheRulesOfALexerMean(t *testing.T) {
	list := readRules(t, "key: cat set 105 set 102\nid: cat set 97-122 star or set 97-122 set 48-57\nnum: cat set 48-57 cat star set 48-57 or empty cat set 46 cat set 48-57 star set 48-57\nop: set 43,45,61\ndot: cat set 46 set 46\n")
	m := machineOf(t, list)
	least := impl.LeastOf(m)
	for _, text := range slices.Concat(textsOf("if1.", 5), textsOf("1.", 9), []string{"1.1..1", "if1.5if+1.+", "1...1.2.3", "x=1.5-if", "+=-=+", "1.1.1.1.1.1."}) {
		meant, far := wantMeant(t, list, text)
		wantAsMeant(t, "the machine", list, m, text, meant, far)
		wantAsMeant(t, "the smallest", list, least, text, meant, far)
	}
}

func TestLexMeansOf12BytesAndOneMore(t *testing.T) {
	one, star, all := rulesBy(byteRex('a')), rulesBy(emptyRex(), starRex(byteRex('a'))), rulesBy(allRex())
	twelve := rulesBy(wordRex('a', 12), byteRex('b'))
	for size := range 13 {
		text := strings.Repeat("a", size)
		for _, list := range [][]impl.Rule{one, star, all, twelve} {
			wantMeant(t, list, text)
		}
		if got, far := impl.LexMeans(one, text); len(got) != size || far != size {
			t.Errorf("%d bytes: %d tokens, to %d", size, len(got), far)
		}
		if got, far := impl.LexMeans(star, text); len(got) != min(size, 1) || far != size {
			t.Errorf("%d bytes: %d tokens, to %d", size, len(got), far)
		}
	}
	got, far := impl.LexMeans(twelve, strings.Repeat("a", 12))
	wantLexed(t, "twelve", got, far, "0:0-12", 12)
	for _, size := range []int{13, 14, 16, 24, 199, 200, 201, 256, 257, 256 + 12, 1<<16 + 12, 1 << 20} {
		for _, list := range [][]impl.Rule{one, star, all, twelve} {
			for _, b := range []string{"a", "b", "\xff"} {
				got, far := impl.LexMeans(list, strings.Repeat(b, size))
				wantLexed(t, fmt.Sprint(size, " bytes"), got, far, "", 0)
			}
		}
	}
	for text, want := range map[string]int{"éééééé": 12, "ééééééa": 0, "日本語日": 12, "日本語日a": 0} {
		if got, far := impl.LexMeans(all, text); far != want || len(got) != min(want, 1) {
			t.Errorf("%q (%d bytes): %s to %d", text, len(text), plainTokens(got), far)
		}
	}
}

// wantNoLex asks for each fixed answer of a machine that is not ok.
func wantNoLex(t *testing.T, what string, d impl.Dfa) {
	t.Helper()
	for _, text := range []string{"", "a", "b", "ab", "\x00", "\xff", strings.Repeat("a", 200), strings.Repeat("a", 201)} {
		if got, far := impl.LexRun(d, text); len(got) != 0 || far != 0 {
			t.Errorf("%s: %.20q is cut into %s to %d", what, text, plainTokens(got), far)
		}
		for _, at := range []int{0, 1, len(text), -1, -2, len(text) + 1, 200, 201, math.MaxInt, math.MinInt} {
			if rule, to := impl.LexAt(d, text, at); rule != -1 || to != at {
				t.Errorf("%s: %.20q at %d: rule %d to %d", what, text, at, rule, to)
			}
		}
	}
}

func TestLexOfWrongMachines(t *testing.T) {
	one := impl.Dfa{Parts: [][]impl.Span{{{Lo: 0, Hi: 255}}}, Rows: [][]int{{0}}, Acc: []int{0}}
	for _, base := range []impl.Dfa{handMachine(), one, machineOf(t, fewRules(2))} {
		for what, d := range wrongNumbers(base) {
			wantNoLex(t, what, d)
		}
		for what, d := range wrongMachines(base) {
			if !plainDfaOk(d) {
				wantNoLex(t, what, d)
			}
		}
	}
	wantNoLex(t, "nothing", impl.Dfa{})
	wantNoLex(t, "one state, no parts", impl.Dfa{Rows: [][]int{nil}, Acc: []int{0}})
	for _, many := range []int{0, 41, 42, 256} {
		wantNoLex(t, fmt.Sprint(many, " states"), ringMachine(many))
	}
}

// wantNotMeant asks for the fixed answer of rules that are not ok.
func wantNotMeant(t *testing.T, what string, list []impl.Rule) {
	t.Helper()
	for _, text := range []string{"", "a", "b", "ab", "\x00", strings.Repeat("a", 12), strings.Repeat("a", 13)} {
		if got, far := impl.LexMeans(list, text); len(got) != 0 || far != 0 {
			t.Errorf("%s: %q is cut into %s to %d", what, text, plainTokens(got), far)
		}
	}
}

func TestLexMeansOfWrongRules(t *testing.T) {
	for many := range 12 {
		list := fewRules(many)
		if many >= 1 && many <= 5 {
			for i := range many {
				wantMeant(t, list, "a"+string(rune('a'+i))+"a")
			}
			continue
		}
		wantNotMeant(t, fmt.Sprint(many, " rules"), list)
	}
	wantNotMeant(t, "none, with room", fewRules(3)[:0])
	wantNotMeant(t, "very many rules", make([]impl.Rule, 1<<20))
	for many := 1; many <= 5; many++ {
		for place := range many {
			for _, name := range wrongNames() {
				list := fewRules(many)
				list[place].Name = name
				wantNotMeant(t, fmt.Sprintf("%.40q at place %d of %d", name, place, many), list)
			}
			for what, part := range wrongParts() {
				list := fewRules(many)
				list[place].Rex = part
				wantNotMeant(t, fmt.Sprint(what, " at place ", place, " of ", many), list)
				list[place].Rex = starRex(part)
				wantNotMeant(t, fmt.Sprint(what, " within place ", place, " of ", many), list)
			}
			for other := range place {
				list := fewRules(many)
				list[place].Name = list[other].Name
				wantNotMeant(t, fmt.Sprint("one name at ", other, " and ", place), list)
			}
		}
	}
	leaf := func(int) impl.Rex { return byteRex(97) }
	stars := func(_ int, r impl.Rex) impl.Rex { return starRex(r) }
	for what, r := range map[string]impl.Rex{
		"25 parts": fullTree(13, leaf), "8 around": around(byteRex(97), 8, stars), "100000 around": around(byteRex(97), 100000, stars),
		"a ring of stars": ring(3, impl.RexStar, 1), "a ring of cats": ring(2, impl.RexCat, 2),
	} {
		wantNotMeant(t, what, rulesBy(r))
		wantNotMeant(t, what+" behind others", rulesBy(byteRex(97), setRex(), r))
	}
	wantMeant(t, rulesBy(byteRex('b'), starRex(fullTree(12, leaf))), strings.Repeat("a", 12))
}

// tokenLists is such as are cut, and others: LexSame and LexText take any.
func tokenLists() [][]impl.Token {
	return [][]impl.Token{
		nil,
		{token(0, 0, 0)},
		{token(0, 0, 1)},
		{token(0, 1, 0)},
		{token(1, 0, 0)},
		{token(-1, 0, 0)},
		{token(0, -1, 0)},
		{token(0, 0, -1)},
		{token(0, 0, 1), token(0, 1, 2)},
		{token(0, 1, 2), token(0, 0, 1)},
		{token(0, 0, 1), token(1, 1, 2)},
		{token(1, 0, 1), token(0, 1, 2)},
		{token(0, 0, 1), token(0, 0, 1)},
		{token(0, 0, 1), token(0, 1, 2), token(0, 2, 3)},
		{token(0, 0, 0), token(0, 0, 0)},
		{token(0, 0, 0), token(0, 0, 0), token(0, 0, 0)},
		{token(4, 199, 200)},
		{token(-1, -2, -3), token(-10, -100, -1000)},
		{token(5, 201, 300)},
		{token(math.MaxInt, math.MinInt, math.MaxInt)},
		{token(math.MinInt, math.MaxInt, math.MinInt)},
		{token(1<<32, 0, 0)},
		{token(1<<8, 0, 0)},
		slices.Repeat([]impl.Token{token(1, 2, 3)}, 1000),
		slices.Repeat([]impl.Token{token(1, 2, 3)}, 1001),
	}
}

func TestLexSameOfEachTwo(t *testing.T) {
	for i, a := range tokenLists() {
		for j, b := range tokenLists() {
			if same := impl.LexSame(a, slices.Clone(b)); same != (i == j) {
				t.Errorf("%.60s and %.60s: %t", plainTokens(a), plainTokens(b), same)
			}
		}
	}
	if !impl.LexSame(nil, []impl.Token{}) || !impl.LexSame([]impl.Token{}, nil) || !impl.LexSame([]impl.Token{{}}[:0], nil) || impl.LexSame(nil, []impl.Token{{}}) || impl.LexSame([]impl.Token{{}}, nil) {
		t.Error("empty and nil lists")
	}
}

func TestLexSameSeesEachChange(t *testing.T) {
	list := []impl.Token{token(0, 0, 2), token(3, 2, 3), token(1, 3, 6), token(3, 6, 7), token(2, 7, 9)}
	for len(list) < 30 {
		list = append(list, token(len(list)%5, len(list)*2-1, len(list)*2+1))
	}
	differs := func(what string, other []impl.Token) {
		t.Helper()
		if impl.LexSame(list, other) || impl.LexSame(other, list) || !impl.LexSame(other, slices.Clone(other)) {
			t.Errorf("%s: %s", what, plainTokens(other))
		}
	}
	for i := range list {
		for _, by := range []int{1, -1, 256, 1 << 32} {
			for what, change := range map[string]func(x *impl.Token){"Rule": func(x *impl.Token) { x.Rule += by }, "From": func(x *impl.Token) { x.From += by }, "To": func(x *impl.Token) { x.To += by }} {
				other := slices.Clone(list)
				change(&other[i])
				differs(fmt.Sprint(what, " at ", i), other)
			}
		}
		differs("one left out", slices.Delete(slices.Clone(list), i, i+1))
		differs("one twice", slices.Insert(slices.Clone(list), i, list[i]))
		differs("the first ones", list[:i])
		for j := range i {
			other := slices.Clone(list)
			other[i], other[j] = other[j], other[i]
			differs("in another order", other)
		}
	}
	if !impl.LexSame(list, slices.Clone(list)) {
		t.Error("not the same as a copy")
	}
}

func TestLexText(t *testing.T) {
	for _, c := range []struct {
		list []impl.Token
		want string
	}{
		{nil, ""},
		{[]impl.Token{}, ""},
		{[]impl.Token{{}}, "0:0-0"},
		{[]impl.Token{token(1, 2, 3)}, "1:2-3"},
		{[]impl.Token{token(0, 0, 2), token(3, 2, 3)}, "0:0-2 3:2-3"},
		{[]impl.Token{token(4, 0, 99), token(0, 99, 100), token(2, 100, 200)}, "4:0-99 0:99-100 2:100-200"},
		{[]impl.Token{token(-1, -2, -3)}, "-1:-2--3"},
		{[]impl.Token{token(-10, 0, -100), token(10, -20, 30)}, "-10:0--100 10:-20-30"},
		{[]impl.Token{token(7, 500, 3)}, "7:500-3"},
		{[]impl.Token{token(math.MaxInt64, math.MinInt64, math.MaxInt64)}, "9223372036854775807:-9223372036854775808-9223372036854775807"},
		{slices.Repeat([]impl.Token{{}}, 300), strings.TrimSuffix(strings.Repeat("0:0-0 ", 300), " ")},
	} {
		if text := impl.LexText(c.list); text != c.want {
			t.Errorf("%q, not %q", text, c.want)
		}
	}
	for _, list := range tokenLists() {
		if text := impl.LexText(list); text != plainTokens(list) {
			t.Errorf("%.60q, not %.60q", text, plainTokens(list))
		}
	}
}

// roomyTokens is the list with room behind its end that is written full.
func roomyTokens(list []impl.Token) []impl.Token {
	return append(slices.Clone(list), token(-70, -71, -72), token(0, 0, 1), token(1, 1, 2))[:len(list)]
}

func TestLexChangesNoArgument(t *testing.T) {
	for _, d := range leastMachines(t) {
		for _, text := range []string{"", "ab", "aabab\xffa"} {
			given := roomyDfa(d)
			before := wholeDfa(given)
			got, far := impl.LexRun(given, text)
			rule, to := impl.LexAt(given, text, len(text)/2)
			if !plainDfaSame(wholeDfa(given), before) {
				t.Fatalf("%v is changed", d)
			}
			want, wantFar := impl.LexRun(d, text)
			wantRule, wantTo := impl.LexAt(d, text, len(text)/2)
			if !slices.Equal(got, want) || far != wantFar || rule != wantRule || to != wantTo {
				t.Fatalf("%v: what lies behind the ends of lists counts", d)
			}
		}
	}
	for _, list := range memoryRules() {
		given := roomyRules(list)
		before := wholeRules(given)
		got, far := impl.LexMeans(given, "aabab")
		if !plainRulesSame(wholeRules(given), before) {
			t.Fatalf("%v are changed", list)
		}
		if want, wantFar := impl.LexMeans(list, "aabab"); !slices.Equal(got, want) || far != wantFar {
			t.Fatalf("%v: what lies behind the ends of lists counts", list)
		}
	}
	for _, a := range tokenLists() {
		for _, b := range tokenLists() {
			given, other := roomyTokens(a), roomyTokens(b)
			before, otherBefore := slices.Clone(given[:cap(given)]), slices.Clone(other[:cap(other)])
			same, text := impl.LexSame(given, other), impl.LexText(given)
			if !slices.Equal(given[:cap(given)], before) || !slices.Equal(other[:cap(other)], otherBefore) {
				t.Fatalf("%.60s or %.60s are changed", plainTokens(a), plainTokens(b))
			}
			if same != slices.Equal(a, b) || text != plainTokens(a) {
				t.Fatalf("%.60s: what lies behind the ends of lists counts", plainTokens(a))
			}
		}
	}
}

// scribbleTokens writes over all of an answer, spare room included.
func scribbleTokens(list []impl.Token) {
	for i := range list[:cap(list)] {
		list[:cap(list)][i] = token(-50, -51, -52)
	}
}

func TestLexAnswersAreNewMemory(t *testing.T) {
	told := 0
	check := func(what string, call func() ([]impl.Token, int), unchanged func() bool) {
		t.Helper()
		first, _ := call()
		second, _ := call()
		if len(first) > 0 {
			told++
		}
		want := slices.Clone(first)
		scribbleTokens(first)
		if !unchanged() {
			t.Fatalf("%s: an answer shares memory with the argument", what)
		}
		if third, _ := call(); !slices.Equal(second, want) || !slices.Equal(third, want) {
			t.Fatalf("%s: two answers share memory", what)
		}
	}
	for _, d := range leastMachines(t) {
		for _, text := range []string{"", "a", "abab", strings.Repeat("a", 100)} {
			given := roomyDfa(d)
			before := wholeDfa(given)
			check(fmt.Sprint(d), func() ([]impl.Token, int) { return impl.LexRun(given, text) }, func() bool { return plainDfaSame(wholeDfa(given), before) })
		}
	}
	for _, list := range memoryRules() {
		given := roomyRules(list)
		before := wholeRules(given)
		check(fmt.Sprint(list), func() ([]impl.Token, int) { return impl.LexMeans(given, "aabab") }, func() bool { return plainRulesSame(wholeRules(given), before) })
	}
	if told < 150 {
		t.Errorf("only %d have tokens", told)
	}
}

// No call hangs on those ahead of it, nor on those beside it.
func TestLexKeepsNothing(t *testing.T) {
	machines := leastMachines(t)
	lists := memoryRules()
	text := "aababbabac\xffab"
	answer := func(i int) string {
		d, list := machines[i%len(machines)], lists[i]
		cut, far := impl.LexRun(d, text)
		rule, to := impl.LexAt(d, text, i%14)
		meant, meantFar := impl.LexMeans(list, text[i%5:12])
		return fmt.Sprint(impl.LexText(cut), far, rule, to, impl.LexText(meant), meantFar, impl.LexSame(cut, meant))
	}
	first := make([]string, len(lists))
	for i := range lists {
		first[i] = answer(i)
	}
	for worker := range 4 {
		t.Run(fmt.Sprint("worker ", worker), func(t *testing.T) {
			t.Parallel()
			for i := len(lists) - 1; i >= 0; i-- {
				impl.LexRun(machines[(i+worker)%len(machines)], text[worker:])
				impl.LexMeans(lists[(i+worker)%len(lists)], "ab")
				if got := answer(i); got != first[i] {
					t.Fatalf("%d: %q, and the first time %q", i, got, first[i])
				}
			}
		})
	}
}
