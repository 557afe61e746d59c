package tests

import (
	"fmt"
	"regexp"
	"slices"
	"strings"
	"testing"
	"unsafe"

	"loop.example/carding/impl"
)

func rule(name string, r impl.Rex) impl.Rule { return impl.Rule{Name: name, Rex: r} }

// rulesBy is rules with the names a, b and so on.
func rulesBy(list ...impl.Rex) []impl.Rule {
	var out []impl.Rule
	for i, r := range list {
		out = append(out, rule(string(rune('a'+i)), r))
	}
	return out
}

// fewRules is that many, each of another byte.
func fewRules(many int) []impl.Rule {
	var list []impl.Rex
	for i := range many {
		list = append(list, byteRex(97+i))
	}
	return rulesBy(list...)
}

// plainRulesText writes rules without asking whether they are ok.
func plainRulesText(list []impl.Rule) string {
	text := ""
	for _, x := range list {
		text += fmt.Sprintf("%s: %s\n", x.Name, plainText(x.Rex))
	}
	return text
}

func plainRulesSame(a, b []impl.Rule) bool {
	return slices.EqualFunc(a, b, func(x, y impl.Rule) bool { return x.Name == y.Name && plainSame(x.Rex, y.Rex) })
}

func copyRules(list []impl.Rule) []impl.Rule {
	var out []impl.Rule
	for _, x := range list {
		out = append(out, rule(x.Name, copyRex(x.Rex)))
	}
	return out
}

var rulesForm = regexp.MustCompile(`\A([a-z]{1,6}: [^\n]+\n){1,5}\z`)

// plainRules reads short texts, by their form and by RexRead.
func plainRules(text string) ([]impl.Rule, bool) {
	if !rulesForm.MatchString(text) {
		return nil, false
	}
	met := map[string]int{}
	var out []impl.Rule
	for _, line := range strings.Split(strings.TrimSuffix(text, "\n"), "\n") {
		at := strings.IndexByte(line, ':')
		r, ok := impl.RexRead(line[at+2:])
		met[line[:at]]++
		if !ok || met[line[:at]] > 1 {
			return nil, false
		}
		out = append(out, rule(line[:at], r))
	}
	return out, true
}

// plainFirst asks each rule in turn, piece by piece.
func plainFirst(list []impl.Rule, text string) int {
	for i, x := range list {
		if len(text) <= impl.MatchMax && piecesOf(x.Rex, text)[0][len(text)] {
			return i
		}
	}
	return -1
}

// spreadName is of 1 to 6 letters.
func spreadName(d *dice) string {
	name := make([]byte, 1+d.upTo(6))
	for i := range name {
		name[i] = byte('a' + d.upTo(26))
	}
	return string(name)
}

// spreadRules is that many lists of 1 to 5 rules of these; the same ones each time.
func spreadRules(from []impl.Rex, many int) [][]impl.Rule {
	var d dice = 23
	var out [][]impl.Rule
	for i := range many {
		var list []impl.Rule
		for len(list) < 1+i%5 {
			name := spreadName(&d)
			if slices.ContainsFunc(list, func(x impl.Rule) bool { return x.Name == name }) {
				continue
			}
			list = append(list, rule(name, from[d.upTo(len(from))]))
		}
		out = append(out, list)
	}
	return out
}

// wantRules asks everything of rules that are ok, and reads them from their text.
func wantRules(t *testing.T, what string, list []impl.Rule) {
	t.Helper()
	if !impl.RulesOk(list) {
		t.Fatalf("%s: %v are not ok", what, list)
	}
	text := impl.RulesText(list)
	if text != plainRulesText(list) {
		t.Fatalf("%s: %q, not %q", what, text, plainRulesText(list))
	}
	back, ok := impl.RulesRead(text)
	if ok != (len(text) <= 20000) || ok && !plainRulesSame(back, list) || !ok && len(back) != 0 {
		t.Fatalf("%s: %.200q (%d bytes) is read as %v, %t", what, text, len(text), back, ok)
	}
	if !impl.RulesSame(list, copyRules(list)) || ok && !impl.RulesSame(back, list) {
		t.Fatalf("%s: %v are not the same as their copy", what, list)
	}
}

// wantNoRules asks for each fixed answer of rules that are not ok.
func wantNoRules(t *testing.T, what string, list []impl.Rule) {
	t.Helper()
	if impl.RulesOk(list) {
		t.Errorf("%s: they are ok", what)
	}
	if text := impl.RulesText(list); text != "" {
		t.Errorf("%s: %q", what, text)
	}
	for _, text := range []string{"", "a", "b", "ab", "\x00", strings.Repeat("a", 12), strings.Repeat("a", 13)} {
		if first := impl.RulesFirst(list, text); first != -1 {
			t.Errorf("%s: %q is like rule %d", what, text, first)
		}
	}
}

// wantRulesNotRead asks for nothing and false.
func wantRulesNotRead(t *testing.T, text string) {
	t.Helper()
	if list, ok := impl.RulesRead(text); ok || len(list) != 0 {
		t.Errorf("%.200q (%d bytes) is read as %v, %t", text, len(text), list, ok)
	}
}

// wantRulesRead holds what is read against the plain reader.
func wantRulesRead(t *testing.T, text string) bool {
	t.Helper()
	want, is := plainRules(text)
	got, ok := impl.RulesRead(text)
	if ok != is || !plainRulesSame(got, want) {
		t.Fatalf("%q is read as %v, %t, not as %v, %t", text, got, ok, want, is)
	}
	if ok && impl.RulesText(got) != text {
		t.Fatalf("%q is read, and written as %q", text, impl.RulesText(got))
	}
	return ok
}

// wrongNames is texts that are no names, each for another reason.
func wrongNames() []string {
	return []string{
		"", " ", "a ", " a", "a b", "aaaaaaa", "abcdefg", strings.Repeat("z", 12), strings.Repeat("a", 256+1), strings.Repeat("a", 1<<20),
		"A", "Z", "aB", "abcdeF", "a1", "1a", "0", "a_", "_", "-", "a-b", "a:", ":", ": ", "a: ", "a\n", "\n", "a\x00", "\x00",
		"`", "{", "a`", "z{", "@", "[", "é", "aé", "ß", "ａ", "ａａ", "日", "\xff", "a\xff", "\xe1", "\u0061\u0301",
	}
}

func TestRuleWordOfEachLength(t *testing.T) {
	for size := range 300 {
		for _, letter := range []string{"a", "m", "z"} {
			if is := impl.RuleWord(strings.Repeat(letter, size)); is != (size >= 1 && size <= 6) {
				t.Errorf("%d times %s: %t", size, letter, is)
			}
		}
	}
}

func TestRuleWordOfEachByteAtEachPlace(t *testing.T) {
	for size := 1; size <= 7; size++ {
		for place := range size {
			for b := range 256 {
				name := []byte("qwerty" + "u")[:size]
				name[place] = byte(b)
				if is := impl.RuleWord(string(name)); is != (size <= 6 && b >= 'a' && b <= 'z') {
					t.Fatalf("%q: %t", name, is)
				}
			}
		}
	}
	for _, name := range wrongNames() {
		if impl.RuleWord(name) {
			t.Errorf("%.40q is a name", name)
		}
	}
}

func TestRulesOfNoneToFiveAndOneMore(t *testing.T) {
	wantNoRules(t, "nil", nil)
	wantNoRules(t, "none", []impl.Rule{})
	wantNoRules(t, "none, with room", fewRules(3)[:0])
	for many := 1; many <= 5; many++ {
		wantRules(t, fmt.Sprint(many, " rules"), fewRules(many))
	}
	for many := 6; many <= 26; many++ {
		wantNoRules(t, fmt.Sprint(many, " rules"), fewRules(many))
		wantRulesNotRead(t, plainRulesText(fewRules(many)))
	}
	wantNoRules(t, "very many rules", make([]impl.Rule, 1<<20))
}

func TestRulesOfNamesAtTheEdges(t *testing.T) {
	for _, name := range []string{"a", "z", "az", "aaaaaa", "zzzzzz", "abcdef", "set", "empty", "cat", "or", "star", "and", "not", "no", "end"} {
		wantRules(t, name, []impl.Rule{rule(name, emptyRex())})
		wantRules(t, name, []impl.Rule{rule("x", byteRex(97)), rule(name, starRex(setRex()))})
	}
	near := []impl.Rule{rule("a", emptyRex()), rule("aa", emptyRex()), rule("aaa", emptyRex()), rule("aaaaaa", emptyRex()), rule("b", emptyRex())}
	wantRules(t, "names that begin alike", near)
}

func TestRulesOfWrongNames(t *testing.T) {
	for _, name := range wrongNames() {
		for many := 1; many <= 5; many++ {
			for place := range many {
				list := fewRules(many)
				list[place].Name = name
				wantNoRules(t, fmt.Sprintf("%.40q at place %d of %d", name, place, many), list)
				wantRulesNotRead(t, plainRulesText(list))
			}
		}
	}
}

func TestRulesOfOneNameTwice(t *testing.T) {
	for many := 2; many <= 5; many++ {
		for first := range many {
			for second := first + 1; second < many; second++ {
				for _, name := range []string{"k", "keyset"} {
					list := fewRules(many)
					list[first].Name, list[second].Name = name, strings.Clone(name)
					what := fmt.Sprint("places ", first, " and ", second, " of ", many)
					wantNoRules(t, what, list)
					wantRulesNotRead(t, plainRulesText(list))
					list[second].Rex = copyRex(list[first].Rex)
					wantNoRules(t, what+", of one Rex", list)
					wantRulesNotRead(t, plainRulesText(list))
					list[second].Name = name[:len(name)-1] + "j"
					wantRules(t, what+", of one Rex alone", list)
				}
			}
		}
	}
}

func TestRulesOfWrongParts(t *testing.T) {
	for what, part := range wrongParts() {
		for many := 1; many <= 5; many++ {
			for place := range many {
				list := fewRules(many)
				list[place].Rex = part
				wantNoRules(t, fmt.Sprint(what, " at place ", place, " of ", many), list)
				list[place].Rex = catRex(byteRex(97), starRex(part))
				wantNoRules(t, fmt.Sprint(what, " within place ", place, " of ", many), list)
			}
		}
	}
}

func TestRulesOf24PartsAnd7AroundAndOneMore(t *testing.T) {
	leaf := func(int) impl.Rex { return byteRex(97) }
	stars := func(others int) impl.Rex {
		return around(byteRex(97), others, func(_ int, r impl.Rex) impl.Rex { return starRex(r) })
	}
	for place := range 5 {
		for _, c := range []struct {
			r  impl.Rex
			ok bool
		}{
			{starRex(fullTree(12, leaf)), true},
			{starRex(starRex(fullTree(12, leaf))), false},
			{fullTree(13, leaf), false},
			{stars(7), true},
			{stars(8), false},
			{stars(100000), false},
			{ring(3, impl.RexStar, 1), false},
			{ring(2, impl.RexCat, 2), false},
		} {
			list := fewRules(5)
			list[place].Rex = c.r
			if c.ok {
				wantRules(t, fmt.Sprint("place ", place), list)
			} else {
				wantNoRules(t, fmt.Sprint("place ", place), list)
			}
		}
		for _, rex := range []string{strings.Repeat("star ", 8) + "set 97", strings.Repeat("not ", 3000) + "empty", plainText(fullTree(13, leaf)), strings.Repeat("cat empty ", 1000) + "empty", strings.Repeat("cat ", 3000)} {
			lines := strings.SplitAfter(plainRulesText(fewRules(5)), "\n")
			lines[place] = "k: " + rex + "\n"
			wantRulesNotRead(t, strings.Join(lines, ""))
		}
	}
}

func TestRulesOfEmptyAndNilLists(t *testing.T) {
	for _, set := range [][]impl.Span{nil, {}, make([]impl.Span, 0, 4)} {
		for _, kids := range [][]impl.Rex{nil, {}, make([]impl.Rex, 0, 2)} {
			list := []impl.Rule{rule("no", impl.Rex{Kind: impl.RexSet, Set: set, Kids: kids}), rule("nil", impl.Rex{Kind: impl.RexEmpty, Set: set, Kids: kids})}
			wantRules(t, "empty lists", list)
			if !impl.RulesSame(list, []impl.Rule{rule("no", setRex()), rule("nil", emptyRex())}) || impl.RulesText(list) != "no: set no\nnil: empty\n" || impl.RulesFirst(list, "") != 1 || impl.RulesFirst(list, "a") != -1 {
				t.Errorf("%#v", list)
			}
		}
	}
	if !impl.RulesSame(nil, []impl.Rule{}) || !impl.RulesSame([]impl.Rule{}, nil) || !impl.RulesSame(fewRules(2)[:0], nil) || impl.RulesSame(nil, []impl.Rule{{}}) || impl.RulesSame([]impl.Rule{{}}, nil) {
		t.Error("empty and nil lists")
	}
}

func TestRulesText(t *testing.T) {
	list := []impl.Rule{
		rule("key", catRex(byteRex(105), byteRex(102))),
		rule("id", catRex(setRex(impl.Span{Lo: 97, Hi: 122}), starRex(orRex(setRex(impl.Span{Lo: 97, Hi: 122}), setRex(impl.Span{Lo: 48, Hi: 57}))))),
		rule("op", setRex(impl.Span{Lo: 43, Hi: 43}, impl.Span{Lo: 45, Hi: 45}, impl.Span{Lo: 61, Hi: 61})),
		rule("x", andRex(notRex(setRex()), emptyRex())),
	}
	want := "key: cat set 105 set 102\nid: cat set 97-122 star or set 97-122 set 48-57\nop: set 43,45,61\nx: and not set no empty\n"
	if text := impl.RulesText(list); text != want {
		t.Errorf("%q, not %q", text, want)
	}
	wantRules(t, "four rules", list)
	for i := range list {
		line := strings.SplitAfter(want, "\n")[i]
		if text := impl.RulesText(list[i : i+1]); text != line {
			t.Errorf("%q, not %q", text, line)
		}
	}
}

func TestRulesOfAllSmallOnes(t *testing.T) {
	for many := 1; many <= 4; many++ {
		for _, r := range smallRexes(many) {
			wantRules(t, "one small rule", []impl.Rule{rule("word", r)})
			wantRules(t, "two small rules", []impl.Rule{rule("b", r), rule("a", notRex(r))})
		}
	}
}

func TestRulesOfSpreadOnes(t *testing.T) {
	for _, list := range append(spreadRules(spreadRexes(), 1500), spreadRules(letterRexes(300), 500)...) {
		wantRules(t, "spread", list)
	}
}

func TestRulesReadOfWrongTexts(t *testing.T) {
	for _, text := range []string{
		"", " ", "\n", "\n\n", ":", ": ", ": \n", ":\n", "a", "a\n", "a:", "a: ", "a:\n", "a: \n", "a:  \n", "empty", "empty\n", "set 97\n",
		"a: empty", "a:empty\n", "a:  empty\n", "a : empty\n", "a :empty\n", " a: empty\n", "a: empty \n", "a: empty\n ", "a:\tempty\n", "a\t: empty\n", "a; empty\n", "a= empty\n", "a empty\n",
		"a: empty\n\n", "\na: empty\n", "a: empty\n\nb: empty\n", "a: empty\n \nb: empty\n", "a: empty\nb\n", "a: empty\nb: empty", "a: empty\nb:empty\n", "a: empty b: empty\n", "a: empty\nempty\n", "a\n: empty\n", "a:\n empty\n", "a: \nempty\n",
		"a: empty\r\n", "a: empty\r", "a: empty\x00\n", "a: empty\n\x00", "\x00", "a\x00: empty\n", "\ufeffa: empty\n", "a:\u00a0empty\n", "a： empty\n",
		": empty\n", "A: empty\n", "1: empty\n", "aA: empty\n", "a b: empty\n", "a:b: empty\n", "a: b: empty\n", "a: a: empty\n", "a:: empty\n", "a: : empty\n", "abcdefg: empty\n", "é: empty\n",
		"a: empty\na: empty\n", "a: empty\na: set 97\n", "a: empty\nb: empty\na: set 97\n",
		"a: set\n", "a: set \n", "a: set 97 \n", "a: set  97\n", "a: set 097\n", "a: set 00\n", "a: set +1\n", "a: set 256\n", "a: set -1\n", "a: set 5-4\n", "a: set 5-5\n", "a: set 1,2\n", "a: set 1-2,3\n", "a: set 3,1\n", "a: set 1,\n", "a: set no,1\n", "a: set 1, 3\n",
		"a: none\n", "a: Empty\n", "a: empty empty\n", "a: cat\n", "a: cat empty\n", "a: cat empty empty empty\n", "a: cat  empty empty\n", "a: cat empty  empty\n", "a: or empty\n", "a: star\n", "a: not\n", "a: star\n empty\n", "a: cat empty\nb: empty\n", "a: 2\n",
		"a: empty\nb: empty\nc: empty\nd: empty\ne: empty\nf: empty\n", "a: empty\nb: empty\nc: empty\nd: empty\ne: empty\nf", "a: empty\nb: empty\nc: empty\nd: empty\ne: empty\n\n", "a: empty\nb: empty\nc: empty\nd: empty\ne: empty\nf: empty", "a: empty\nb: empty\nc: empty\nd: empty\ne: empty\nf: fly\n",
	} {
		wantRulesNotRead(t, text)
		if wantRulesRead(t, text) {
			t.Errorf("%q is read plainly", text)
		}
	}
}

// Each text of few pieces is read just if rules that are ok are so written.
func TestRulesReadOfAllFewPieces(t *testing.T) {
	for _, c := range []struct {
		pieces []string
		most   int
		least  int
	}{
		{[]string{"a", "b", ": ", "empty", "\n"}, 8, 200},
		{[]string{"a", ":", " ", "empty", "star", "\n"}, 7, 20},
		{[]string{"a: ", "b: ", "empty\n", "star ", "set ", "0", "97", "-", ","}, 6, 50},
	} {
		read := 0
		texts := []string{""}
		for range c.most {
			var next []string
			for _, text := range texts {
				for _, piece := range c.pieces {
					next = append(next, text+piece)
				}
			}
			for _, text := range next {
				if wantRulesRead(t, text) || wantRulesRead(t, text+"\n") {
					read++
				}
			}
			texts = next
		}
		if read < c.least {
			t.Errorf("%q: only %d are read", c.pieces, read)
		}
	}
}

// A text that has a byte more, a byte less or another byte is read just if it is that of other rules.
func TestRulesReadOfChangedTexts(t *testing.T) {
	for i, list := range append(spreadRules(smallRexes(3), 25), spreadRules(letterRexes(50), 25)...) {
		text := impl.RulesText(list)
		for at := range len(text) + 1 {
			for _, piece := range []string{" ", "\n", ":", "a", "0", ",", ": ", "\x00", "A", "\xff"} {
				wantRulesRead(t, text[:at]+piece+text[at:])
				if at < len(text) {
					wantRulesRead(t, text[:at]+piece+text[at+1:])
				}
			}
			wantRulesRead(t, text[:at])
			wantRulesRead(t, text[at:])
			if at < len(text) {
				wantRulesRead(t, text[:at]+text[at+1:])
			}
		}
		if ok := wantRulesRead(t, text); !ok {
			t.Errorf("list %d is not read", i)
		}
		wantRulesNotRead(t, text+text)
	}
}

// A Rex that is ok may have a text that is too long for RexRead: the rules that are so written are read all the same.
func TestRulesReadOfLongRexes(t *testing.T) {
	spans := flagsBy(func(b int) bool { return b%3 != 2 }).spans()
	longest := fullTree(12, func(int) impl.Rex { return setRex(spans...) })
	list := []impl.Rex{longest}
	for size := 3998; size <= 4003; size++ {
		list = append(list, rexOfText(t, size))
	}
	for _, r := range list {
		for many := 1; many <= 2; many++ {
			rules := rulesBy(slices.Repeat([]impl.Rex{r}, many)...)
			wantRules(t, fmt.Sprint(many, " rules of ", len(plainText(r)), " bytes each"), rules)
			if _, ok := impl.RulesRead(impl.RulesText(rules)); !ok {
				t.Errorf("%d rules of %d bytes each are not read", many, len(plainText(r)))
			}
		}
	}
}

func TestRulesReadOf20000BytesAndOneMore(t *testing.T) {
	for more := -5; more <= 5; more++ {
		var list []impl.Rex
		for i := range 5 {
			size := 3996
			if i == 2 {
				size += more
			}
			list = append(list, rexOfText(t, size))
		}
		rules := rulesBy(list...)
		text := impl.RulesText(rules)
		if len(text) != 20000+more {
			t.Fatalf("%d bytes, not %d", len(text), 20000+more)
		}
		wantRules(t, fmt.Sprint(len(text), " bytes"), rules)
		if back, ok := impl.RulesRead(text); ok != (more <= 0) || ok && len(back) != 5 {
			t.Errorf("%d bytes are read as %d rules, %t", len(text), len(back), ok)
		}
	}
	spans := flagsBy(func(b int) bool { return b%3 != 2 }).spans()
	longest := rulesBy(slices.Repeat([]impl.Rex{fullTree(12, func(int) impl.Rex { return setRex(spans...) })}, 5)...)
	wantRules(t, "the longest text", longest)
	wantRulesNotRead(t, impl.RulesText(longest))
	for _, size := range []int{19999, 20000, 20001, 1000000} {
		rest := size - len("a: empty\n")
		wantRulesNotRead(t, "a: empty"+strings.Repeat(" ", rest)+"\n")
		wantRulesNotRead(t, "a: "+strings.Repeat(" ", rest)+"empty\n")
		wantRulesNotRead(t, "a: empty\n"+strings.Repeat("\n", rest))
		wantRulesNotRead(t, strings.Repeat("\n", size))
		wantRulesNotRead(t, strings.Repeat(":", size))
		wantRulesNotRead(t, strings.Repeat("a", size))
		wantRulesNotRead(t, "a: "+strings.Repeat("not ", rest/4)+"empty\n")
		wantRulesNotRead(t, strings.Repeat("a: empty\n", size/9))
	}
}

func TestRulesSameOfEachTwo(t *testing.T) {
	lists := append(spreadRules(smallRexes(2), 60), nil, []impl.Rule{{}}, []impl.Rule{{}, {}}, []impl.Rule{{Name: "a"}}, []impl.Rule{{Name: "A B"}}, fewRules(6), fewRules(7), rulesBy(setRex(), emptyRex()), rulesBy(emptyRex(), setRex()))
	for _, part := range wrongParts() {
		lists = append(lists, rulesBy(part))
	}
	for _, a := range lists {
		for _, b := range lists {
			if same := impl.RulesSame(a, copyRules(b)); same != plainRulesSame(a, b) {
				t.Fatalf("%v and %v: %t", a, b, same)
			}
		}
	}
}

func TestRulesSameSeesEachChange(t *testing.T) {
	differ := func(a, b []impl.Rule) {
		t.Helper()
		if impl.RulesSame(a, b) || impl.RulesSame(b, a) {
			t.Fatalf("%v are the same as %v", a, b)
		}
	}
	for _, list := range append(spreadRules(smallRexes(3), 40), spreadRules(letterRexes(50), 20)...) {
		for i := range list {
			for _, name := range []string{"", list[i].Name + "a", list[i].Name[1:], strings.ToUpper(list[i].Name), list[i].Name + "\x00"} {
				other := slices.Clone(list)
				other[i].Name = name
				differ(list, other)
			}
			changes(list[i].Rex, func(r impl.Rex) {
				other := slices.Clone(list)
				other[i].Rex = r
				differ(list, other)
			})
			differ(list, slices.Delete(slices.Clone(list), i, i+1))
			differ(list, slices.Insert(slices.Clone(list), i, list[i]))
			if i > 0 {
				other := slices.Clone(list)
				other[i-1], other[i] = other[i], other[i-1]
				differ(list, other)
			}
		}
		differ(list, append(slices.Clone(list), impl.Rule{}))
	}
}

func TestRulesSameOfWhatHasNoEnd(t *testing.T) {
	for _, many := range []int{1, 2, 3, 8} {
		a, b := rulesBy(ring(many, impl.RexCat, 2), emptyRex()), rulesBy(ring(1, impl.RexCat, 2), emptyRex())
		wantNoRules(t, fmt.Sprint("a ring of ", many), a)
		if !impl.RulesSame(a, b) || impl.RulesSame(a, rulesBy(ring(many, impl.RexOr, 2), emptyRex())) || impl.RulesSame(a, rulesBy(ring(many, impl.RexCat, 2), setRex())) {
			t.Errorf("rings of %d", many)
		}
	}
	broad := func(leaf impl.Rex) impl.Rex {
		return around(leaf, 200, func(_ int, r impl.Rex) impl.Rex { return catRex(r, r) })
	}
	if !impl.RulesSame(rulesBy(broad(emptyRex())), rulesBy(broad(emptyRex()))) || impl.RulesSame(rulesBy(broad(emptyRex())), rulesBy(broad(setRex()))) {
		t.Error("broad ones")
	}
}

func wantFirst(t *testing.T, list []impl.Rule, text string, want int) {
	t.Helper()
	if first := impl.RulesFirst(list, text); first != want {
		t.Errorf("%q: %.60q is like rule %d, not %d", plainRulesText(list), text, first, want)
	}
}

// readRules is the rules of a text.
func readRules(t *testing.T, text string) []impl.Rule {
	t.Helper()
	list, ok := impl.RulesRead(text)
	if !ok {
		t.Fatalf("%q is not read", text)
	}
	return list
}

func TestRulesFirstOfSeveral(t *testing.T) {
	list := readRules(t, "key: cat set 105 set 102\nid: cat set 97-122 star or set 97-122 set 48-57\nnum: cat set 48-57 star set 48-57\nop: set 43,45,61\nany: not empty\n")
	for text, want := range map[string]int{"if": 0, "i": 1, "f": 1, "iff": 1, "fi": 1, "x1": 1, "1": 2, "42": 2, "+": 3, "=": 3, "==": 4, "1x": 4, "If": 4, "\x00": 4, "\xff\xfe": 4, "": -1} {
		wantFirst(t, list, text, want)
	}
	all := notRex(setRex())
	for many := 1; many <= 5; many++ {
		for bits := range 1 << many {
			var of []impl.Rex
			want := -1
			for place := range many {
				r := setRex()
				if bits>>place&1 == 1 {
					r = all
					if want < 0 {
						want = place
					}
				}
				of = append(of, r)
			}
			for _, text := range []string{"", "a", "\n", "ab", strings.Repeat("\xff", 12)} {
				wantFirst(t, rulesBy(of...), text, want)
			}
			wantFirst(t, rulesBy(of...), strings.Repeat("a", 13), -1)
		}
	}
}

func TestRulesFirstOfTheEmptyText(t *testing.T) {
	for many := 1; many <= 4; many++ {
		for _, r := range smallRexes(many) {
			behind, ahead := -1, 1
			if likeEmpty(r) {
				behind, ahead = 1, 0
			}
			wantFirst(t, rulesBy(byteRex(97), r), "", behind)
			wantFirst(t, rulesBy(r, emptyRex()), "", ahead)
		}
	}
}

func TestRulesFirstOf12BytesAndOneMore(t *testing.T) {
	list := rulesBy(starRex(byteRex(97)), starRex(setRex(impl.Span{Lo: 97, Hi: 98})), notRex(setRex()))
	for size := range 300 {
		want := [3]int{0, 1, 2}
		if size > 12 {
			want = [3]int{-1, -1, -1}
		}
		if size == 0 {
			wantFirst(t, list, "", 0)
			continue
		}
		wantFirst(t, list, strings.Repeat("a", size), want[0])
		wantFirst(t, list, strings.Repeat("a", size-1)+"b", want[1])
		wantFirst(t, list, strings.Repeat("a", size-1)+"c", want[2])
		wantFirst(t, list, strings.Repeat("\x00", size), want[2])
	}
	wantFirst(t, list, strings.Repeat("é", 6), 2)
	wantFirst(t, list, strings.Repeat("é", 7), -1)
	wantFirst(t, list, strings.Repeat("a", 1<<20), -1)
}

func TestRulesFirstOfSpreadOnes(t *testing.T) {
	var d dice = 31
	met := map[int]int{}
	for _, list := range append(spreadRules(letterRexes(300), 400), spreadRules(smallRexes(4), 200)...) {
		for range 12 {
			text := letterText(&d, d.upTo(impl.MatchMax+2))
			want := plainFirst(list, text)
			wantFirst(t, list, text, want)
			met[want]++
		}
		for _, text := range textsOf("ab", 3) {
			wantFirst(t, list, text, plainFirst(list, text))
		}
	}
	for want := -1; want < 5; want++ {
		if met[want] < 10 {
			t.Errorf("%d was met only %d times", want, met[want])
		}
	}
}

// The rules behind the first that a text is like do not count, those ahead of it do.
func TestRulesFirstCountsThoseAhead(t *testing.T) {
	var d dice = 37
	for _, list := range spreadRules(letterRexes(200), 300) {
		text := letterText(&d, d.upTo(impl.MatchMax+1))
		first := impl.RulesFirst(list, text)
		if first < 0 {
			continue
		}
		wantFirst(t, list[:first+1], text, first)
		if first > 0 {
			wantFirst(t, list[:first], text, -1)
		}
		wantFirst(t, list[first:], text, 0)
		if !impl.MatchIs(list[first].Rex, text) {
			t.Errorf("%q is not like rule %d of %q", text, first, plainRulesText(list))
		}
	}
}

// roomyRules is a copy all of whose lists have room behind their ends that is written full.
func roomyRules(list []impl.Rule) []impl.Rule {
	out := make([]impl.Rule, len(list)+3)
	for i := range out {
		out[i] = rule("behind", copyRex(scribbleRex))
	}
	for i, x := range list {
		out[i] = rule(x.Name, roomyRex(x.Rex))
	}
	return out[:len(list)]
}

// wholeRules is a copy, with what lies behind the ends of lists.
func wholeRules(list []impl.Rule) []impl.Rule {
	var out []impl.Rule
	for _, x := range list[:cap(list)] {
		out = append(out, rule(x.Name, wholeRex(x.Rex)))
	}
	return out
}

// memoryRules is some that are ok and some that are not.
func memoryRules() [][]impl.Rule {
	out := append(spreadRules(spreadRexes(), 100), spreadRules(letterRexes(40), 60)...)
	out = append(out, nil, fewRules(5), fewRules(6), []impl.Rule{rule("a", emptyRex()), rule("a", byteRex(97))}, []impl.Rule{rule("A", byteRex(97))})
	for _, part := range wrongParts() {
		out = append(out, rulesBy(byteRex(97), part))
	}
	return out
}

func TestRulesChangeNoArgument(t *testing.T) {
	lists := memoryRules()
	for i, list := range lists {
		given, other := roomyRules(list), roomyRules(lists[i*7%len(lists)])
		before, otherBefore := wholeRules(given), wholeRules(other)
		ok, text, first := impl.RulesOk(given), impl.RulesText(given), impl.RulesFirst(given, "ab")
		impl.RulesSame(given, other)
		impl.RulesSame(given, roomyRules(list))
		if !plainRulesSame(wholeRules(given), before) || !plainRulesSame(wholeRules(other), otherBefore) {
			t.Fatalf("%v or %v are changed", list, lists[i*7%len(lists)])
		}
		if ok != impl.RulesOk(list) || text != impl.RulesText(list) || first != impl.RulesFirst(list, "ab") || !impl.RulesSame(given, list) {
			t.Fatalf("%v: what lies behind the ends of lists counts", list)
		}
	}
}

// scribbleRules writes over all of an answer, spare room included, and says whether no two lists of it share any.
func scribbleRules(list []impl.Rule) bool {
	var sets [][]impl.Span
	var kids [][]impl.Rex
	for _, x := range list[:cap(list)] {
		s, k := listsOf(x.Rex)
		sets, kids = append(sets, s...), append(kids, k...)
	}
	alone := scribbleOver(sets, kids)
	for i := range list[:cap(list)] {
		list[:cap(list)][i] = rule("over", copyRex(scribbleRex))
	}
	return alone
}

func TestRulesReadIsNewMemory(t *testing.T) {
	for _, list := range memoryRules() {
		text := impl.RulesText(list)
		first, ok := impl.RulesRead(text)
		second, _ := impl.RulesRead(text)
		if !ok {
			continue
		}
		for _, x := range first[len(first):cap(first)] {
			if x.Name != "" || cap(x.Rex.Set) > 0 || cap(x.Rex.Kids) > 0 {
				t.Fatalf("%q: there is a rule behind the end of the answer", text)
			}
		}
		if !scribbleRules(first) {
			t.Fatalf("%q: two lists of the answer share memory", text)
		}
		third, _ := impl.RulesRead(text)
		if !plainRulesSame(second, list) || !plainRulesSame(third, list) {
			t.Fatalf("%q: two answers share memory", text)
		}
	}
}

// within says whether a text lies in the memory of another one.
func within(piece, text string) bool {
	at, from := uintptr(unsafe.Pointer(unsafe.StringData(piece))), uintptr(unsafe.Pointer(unsafe.StringData(text)))
	return piece != "" && text != "" && at >= from && at < from+uintptr(len(text))
}

func TestRulesReadNamesAreNoPiecesOfTheText(t *testing.T) {
	for _, list := range spreadRules(smallRexes(2), 50) {
		text := impl.RulesText(list)
		for _, x := range readRules(t, text) {
			if within(x.Name, text) {
				t.Fatalf("%q: the name %q shares memory with it", text, x.Name)
			}
		}
	}
}

// No call hangs on those ahead of it, nor on those beside it.
func TestRulesKeepNothing(t *testing.T) {
	lists := memoryRules()
	answer := func(list []impl.Rule) string {
		back, ok := impl.RulesRead(plainRulesText(fewRules(len(list))) + impl.RulesText(list))
		return fmt.Sprint(impl.RulesOk(list), impl.RulesText(list), impl.RulesFirst(list, "ab"), impl.RulesFirst(list, ""), back, ok)
	}
	first := make([]string, len(lists))
	for i, list := range lists {
		first[i] = answer(list)
	}
	for worker := range 4 {
		t.Run(fmt.Sprint("worker ", worker), func(t *testing.T) {
			t.Parallel()
			for i := len(lists) - 1; i >= 0; i-- {
				impl.RulesOk(lists[(i+worker)%len(lists)])
				impl.RulesRead("a: empty\na: empty\n")
				if got := answer(lists[i]); got != first[i] {
					t.Fatalf("%v: another answer than the first time", lists[i])
				}
			}
		})
	}
}
