package tests

import (
	"fmt"
	"math"
	"slices"
	"strings"
	"testing"

	"loop.example/carding/impl"
)

// language is texts, each once: what the table of the kinds speaks of.
type language map[string]struct{}

func (l language) has(text string) bool {
	_, had := l[text]
	return had
}

// textsOf is all texts of these letters of up to that many bytes, the shorter ones first.
func textsOf(letters string, most int) []string {
	out := []string{""}
	for from := 0; most > 0; most-- {
		till := len(out)
		for _, text := range out[from:till] {
			for i := range len(letters) {
				out = append(out, text+letters[i:i+1])
			}
		}
		from = till
	}
	return out
}

// languageOf makes the table's texts, as far as they are among those given, by putting texts together rather than by cutting them.
func languageOf(r impl.Rex, texts []string) language {
	out := language{}
	var kids []language
	for _, kid := range r.Kids {
		kids = append(kids, languageOf(kid, texts))
	}
	longest := len(texts[len(texts)-1])
	for _, text := range texts {
		like := false
		switch r.Kind {
		case impl.RexSet:
			like = len(text) == 1 && flagsOf(r.Set)[text[0]]
		case impl.RexEmpty, impl.RexStar:
			like = text == ""
		case impl.RexOr:
			like = kids[0].has(text) || kids[1].has(text)
		case impl.RexAnd:
			like = kids[0].has(text) && kids[1].has(text)
		case impl.RexNot:
			like = !kids[0].has(text)
		}
		if like {
			out[text] = struct{}{}
		}
	}
	switch r.Kind {
	case impl.RexCat:
		return joined(kids[0], kids[1], longest)
	case impl.RexStar:
		for many := -1; many != len(out); {
			many = len(out)
			for text := range joined(out, kids[0], longest) {
				out[text] = struct{}{}
			}
		}
	}
	return out
}

func joined(a, b language, longest int) language {
	out := language{}
	for x := range a {
		for y := range b {
			if len(x)+len(y) <= longest {
				out[x+y] = struct{}{}
			}
		}
	}
	return out
}

// pieces says of each piece of a text, from a place to another one, whether it is like something.
type pieces [impl.MatchMax + 1][impl.MatchMax + 1]bool

// piecesOf finds them for each part apart, piece by piece, the shorter ones first.
func piecesOf(r impl.Rex, text string) pieces {
	var out pieces
	var kids [2]pieces
	for i, kid := range r.Kids {
		kids[i] = piecesOf(kid, text)
	}
	for size := range len(text) + 1 {
		for from := 0; from+size <= len(text); from++ {
			to := from + size
			a, b := kids[0][from][to], kids[1][from][to]
			like := false
			switch r.Kind {
			case impl.RexSet:
				like = size == 1 && flagsOf(r.Set)[text[from]]
			case impl.RexEmpty:
				like = size == 0
			case impl.RexCat:
				for cut := from; cut <= to; cut++ {
					like = like || kids[0][from][cut] && kids[1][cut][to]
				}
			case impl.RexOr:
				like = a || b
			case impl.RexStar:
				like = size == 0 || a
				for cut := from + 1; cut < to; cut++ {
					like = like || out[from][cut] && out[cut][to]
				}
			case impl.RexAnd:
				like = a && b
			case impl.RexNot:
				like = !a
			}
			out[from][to] = like
		}
	}
	return out
}

// long is the greatest number of bytes from a place on.
func (p pieces) long(at, size int) int {
	for to := size; to >= at; to-- {
		if p[at][to] {
			return to - at
		}
	}
	return -1
}

// letterSets is the sets of some of the letters a and b, and of all bytes but one.
func letterSets() []flags {
	var out []flags
	for bits := range 4 {
		out = append(out, flagsBy(func(b int) bool { return b == 'a' && bits&1 == 1 || b == 'b' && bits&2 == 2 }))
	}
	return append(out, out[1], out[2], flagsBy(func(b int) bool { return b != 'a' }))
}

// letterRexes is small and great ones of such sets; the same ones each time.
func letterRexes(many int) []impl.Rex {
	var d dice = 3
	var out []impl.Rex
	for i := range many {
		out = append(out, spreadRex(&d, letterSets(), 2+i%(impl.RexSize-1), impl.RexDeep))
	}
	return out
}

// letterText is of a and b, and now and then of another byte.
func letterText(d *dice, size int) string {
	var text strings.Builder
	for range size {
		text.WriteByte("aaaabbbbc\xff"[d.upTo(10)])
	}
	return text.String()
}

// oddPlaces is places that are none, of whatever text that is asked of.
func oddPlaces() []int {
	return []int{math.MinInt, math.MinInt + 1, -1 << 32, -256, -17, -16, -13, -12, -3, -2, -1, 13, 14, 15, 16, 17, 64, 256, 1 << 16, 1 << 32, math.MaxInt - 1, math.MaxInt}
}

// wantLike asks of one text everything that can be asked of it, at each place there is and at such as are none.
func wantLike(t *testing.T, r impl.Rex, text string) {
	t.Helper()
	want := piecesOf(r, text)
	if is := impl.MatchIs(r, text); is != want[0][len(text)] {
		t.Fatalf("%q is like %q: %t", text, plainText(r), is)
	}
	for at := range len(text) + 1 {
		if n := impl.MatchLong(r, text, at); n != want.long(at, len(text)) {
			t.Fatalf("%q from %d on: %d bytes, not %d, are like %q", text, at, n, want.long(at, len(text)), plainText(r))
		}
	}
	for past := len(text) + 1; past <= len(text)+3; past++ {
		wantNoLong(t, r, text, past)
	}
	for _, at := range oddPlaces() {
		wantNoLong(t, r, text, at)
	}
}

func wantNoLong(t *testing.T, r impl.Rex, text string, at int) {
	t.Helper()
	if n := impl.MatchLong(r, text, at); n != -1 {
		t.Fatalf("%q from %d on: %d bytes", text, at, n)
	}
}

// wantUnlike asks for the fixed answers where one of the two is none.
func wantUnlike(t *testing.T, what string, r impl.Rex, text string) {
	t.Helper()
	if impl.MatchIs(r, text) {
		t.Errorf("%s: %q is like it", what, text)
	}
	for at := -3; at <= len(text)+3; at++ {
		if n := impl.MatchLong(r, text, at); n != -1 {
			t.Errorf("%s: %q from %d on: %d bytes", what, text, at, n)
		}
	}
}

func readRex(t *testing.T, text string) impl.Rex {
	t.Helper()
	r, ok := impl.RexRead(text)
	if !ok {
		t.Fatalf("%q is not read", text)
	}
	return r
}

func TestMatchWordOfEachLength(t *testing.T) {
	for size := range 300 {
		for _, b := range []string{"a", "\x00", "\xff", "\x80", " ", "\n"} {
			if is := impl.MatchWord(strings.Repeat(b, size)); is != (size <= 12) {
				t.Errorf("%d of %q: %t", size, b, is)
			}
		}
	}
	for _, size := range []int{1 << 8, 1<<8 + 1, 1 << 16, 1<<16 + 12, 1 << 20} {
		if impl.MatchWord(strings.Repeat("a", size)) {
			t.Errorf("a text of %d bytes", size)
		}
	}
	for text, want := range map[string]bool{"": true, "éééééé": true, "ééééééa": false, "ééééééé": false, "日本語日": true, "日本語日a": false} {
		if impl.MatchWord(text) != want {
			t.Errorf("%q (%d bytes)", text, len(text))
		}
	}
}

func TestMatchOfAllSmallOnes(t *testing.T) {
	short := textsOf("ab", 4)
	few := textsOf("ab", 3)
	for many := 1; many <= 5; many++ {
		texts := short
		if many == 5 {
			texts = few
		}
		for _, r := range smallRexes(many) {
			want := languageOf(r, texts)
			for _, text := range texts {
				if is := impl.MatchIs(r, text); is != want.has(text) {
					t.Fatalf("%q is like %q: %t", text, plainText(r), is)
				}
			}
		}
	}
}

func TestMatchOfLettersIsWhatTheTableSays(t *testing.T) {
	texts := textsOf("ab", 6)
	yes, no := 0, 0
	for _, r := range letterRexes(700) {
		want := languageOf(r, texts)
		for _, text := range texts {
			if is := impl.MatchIs(r, text); is != want.has(text) {
				t.Fatalf("%q is like %q: %t", text, plainText(r), is)
			}
		}
		yes, no = yes+len(want), no+len(texts)-len(want)
	}
	if yes < 10000 || no < 10000 {
		t.Errorf("only %d texts are like them, %d are not", yes, no)
	}
}

func TestMatchOfTextsOfEachLength(t *testing.T) {
	var d dice = 5
	long := 0
	for _, r := range letterRexes(900) {
		for size := range impl.MatchMax + 1 {
			text := letterText(&d, size)
			wantLike(t, r, text)
			if n := impl.MatchLong(r, text, 0); n > 3 && n < size {
				long++
			}
		}
	}
	if long < 100 {
		t.Errorf("only %d are longer than 3 bytes and shorter than their text", long)
	}
}

func TestMatchOfSpreadOnes(t *testing.T) {
	var d dice = 7
	for i, r := range spreadRexes() {
		if i%6 != 0 {
			continue
		}
		for _, size := range []int{0, 1, 2, 5, 12} {
			text := make([]byte, size)
			for at := range text {
				text[at] = byte(d.upTo(256))
			}
			wantLike(t, r, string(text))
		}
	}
}

// Promise 3, asked of the program by its own answers: each kind is what the words say of its kids.
func TestMatchOfEachKindIsAsItsKidsAre(t *testing.T) {
	var d dice = 9
	for range 1500 {
		a, b := spreadRex(&d, letterSets(), 10, 6), spreadRex(&d, letterSets(), 10, 6)
		text := letterText(&d, d.upTo(9))
		cat, star := false, text == ""
		for cut := range len(text) + 1 {
			head, tail := text[:cut], text[cut:]
			cat = cat || impl.MatchIs(a, head) && impl.MatchIs(b, tail)
			star = star || cut > 0 && impl.MatchIs(a, head) && impl.MatchIs(starRex(a), tail)
		}
		isA, isB := impl.MatchIs(a, text), impl.MatchIs(b, text)
		for what, c := range map[string][2]bool{
			"cat":  {impl.MatchIs(catRex(a, b), text), cat},
			"or":   {impl.MatchIs(orRex(a, b), text), isA || isB},
			"and":  {impl.MatchIs(andRex(a, b), text), isA && isB},
			"star": {impl.MatchIs(starRex(a), text), star},
			"not":  {impl.MatchIs(notRex(a), text), !isA},
		} {
			if c[0] != c[1] {
				t.Fatalf("%q is like %s of %q and %q: %t", text, what, plainText(a), plainText(b), c[0])
			}
		}
	}
}

// MatchLong is the greatest number for which MatchIs says so of the piece.
func TestMatchLongIsTheLongestThatIsLike(t *testing.T) {
	var d dice = 11
	none := 0
	for _, r := range letterRexes(600) {
		text := letterText(&d, d.upTo(impl.MatchMax+1))
		for at := range len(text) + 1 {
			want := -1
			for n := range len(text) - at + 1 {
				if impl.MatchIs(r, text[at:at+n]) {
					want = n
				}
			}
			if n := impl.MatchLong(r, text, at); n != want {
				t.Fatalf("%q from %d on: %d bytes, not %d, are like %q", text, at, n, want, plainText(r))
			}
			if want == -1 {
				none++
			}
		}
	}
	if none < 100 {
		t.Errorf("only %d places with none", none)
	}
}

func TestMatchOfTheEmptyText(t *testing.T) {
	list := append(letterRexes(500), smallRexes(4)...)
	for _, r := range list {
		if is := impl.MatchIs(r, ""); is != likeEmpty(r) || is != impl.RexNull(r) {
			t.Fatalf("the empty text is like %q: %t", plainText(r), is)
		}
		want := -1
		if likeEmpty(r) {
			want = 0
		}
		if n := impl.MatchLong(r, "", 0); n != want {
			t.Fatalf("%d bytes of the empty text are like %q", n, plainText(r))
		}
		// At the end of a text there is the empty text, too.
		if n := impl.MatchLong(r, "ab", 2); n != want {
			t.Fatalf("%d bytes at the end are like %q", n, plainText(r))
		}
		wantNoLong(t, r, "", -1)
		wantNoLong(t, r, "", 1)
	}
}

// wantTexts asks of all texts of a and b of up to 4 bytes; those that are told are like it, and no others.
func wantTexts(t *testing.T, rex string, like ...string) {
	t.Helper()
	r := readRex(t, rex)
	for _, text := range textsOf("ab", 4) {
		if is := impl.MatchIs(r, text); is != slices.Contains(like, text) {
			t.Errorf("%q is like %q: %t", text, rex, is)
		}
		wantLike(t, r, text)
	}
}

// allBut is all texts of a and b of up to 4 bytes but these.
func allBut(texts ...string) []string {
	return slices.DeleteFunc(textsOf("ab", 4), func(text string) bool { return slices.Contains(texts, text) })
}

// startsWith is all texts of a and b of up to 4 bytes that begin so.
func startsWith(head string) []string {
	return slices.DeleteFunc(textsOf("ab", 4), func(text string) bool { return !strings.HasPrefix(text, head) })
}

func TestMatchOfAStarOfWhatIsEmpty(t *testing.T) {
	as := []string{"", "a", "aa", "aaa", "aaaa"}
	wantTexts(t, "star empty", "")
	wantTexts(t, "star set no", "")
	wantTexts(t, "star star empty", "")
	wantTexts(t, "star star set no", "")
	wantTexts(t, "star and empty set 97", "")
	wantTexts(t, "star or empty set 97", as...)
	wantTexts(t, "star or set 97 empty", as...)
	wantTexts(t, "star star set 97", as...)
	wantTexts(t, "star star star star star star star set 97", as...)
	wantTexts(t, "star or empty star or empty set 97", as...)
	wantTexts(t, "star cat empty set 97", as...)
	wantTexts(t, "star cat star set 97 empty", as...)
	wantTexts(t, "star cat star set 97 star set 97", as...)
	wantTexts(t, "star cat set 97 set 97", "", "aa", "aaaa")
	wantTexts(t, "star or empty cat set 97 set 98", "", "ab", "abab")
	wantTexts(t, "star cat star set 97 set 98", allBut("a", "aa", "aaa", "aaaa", "ba", "aba", "baa", "bba", "aaba", "abaa", "abba", "baaa", "baba", "bbaa", "bbba")...)
	wantTexts(t, "star or star set 97 star set 98", textsOf("ab", 4)...)
	wantTexts(t, "star not set no", textsOf("ab", 4)...)
	wantTexts(t, "star not empty", textsOf("ab", 4)...)
	wantTexts(t, "star not not empty", "")
	wantTexts(t, "star not set 97", allBut("a")...)
	wantTexts(t, "star not star set 97", append(allBut("a", "aa", "aaa", "aaaa"), "")...)
	wantTexts(t, "not star empty", textsOf("ab", 4)[1:]...)
	wantTexts(t, "cat star empty set 97", "a")
	wantTexts(t, "and star empty star set 97", "")
}

func TestMatchOfANotWithinACat(t *testing.T) {
	all := textsOf("ab", 4)
	wantTexts(t, "not set 97", allBut("a")...)
	wantTexts(t, "not empty", all[1:]...)
	wantTexts(t, "not set no", all...)
	wantTexts(t, "not not set 97", "a")
	wantTexts(t, "cat not empty not empty", all[3:]...)
	wantTexts(t, "cat not empty cat not empty not empty", all[7:]...)
	wantTexts(t, "cat not set no not set no", all...)
	// An a alone ahead is no such text, but nothing, or two of them, is.
	wantTexts(t, "cat not set 97 set 97", "a", "ba", "aaa", "aba", "baa", "bba", "aaaa", "aaba", "abaa", "abba", "baaa", "baba", "bbaa", "bbba")
	wantTexts(t, "cat set 97 not set 98", "a", "aa", "aaa", "aab", "aba", "abb", "aaaa", "aaab", "aaba", "aabb", "abaa", "abab", "abba", "abbb")
	wantTexts(t, "cat set 97 not empty", "aa", "ab", "aaa", "aab", "aba", "abb", "aaaa", "aaab", "aaba", "aabb", "abaa", "abab", "abba", "abbb")
	wantTexts(t, "cat not set 97 not set 97", allBut("a")...)
	wantTexts(t, "cat not not set 97 not not set 98", "ab")
	wantTexts(t, "cat not set 97-98 empty", allBut("a", "b")...)
	wantTexts(t, "cat empty not set 97-98", allBut("a", "b")...)
	wantTexts(t, "cat set no not set no")
	wantTexts(t, "cat not set no set no")
	wantTexts(t, "cat cat not set no set 98 not set no", allBut("", "a", "aa", "aaa", "aaaa")...)
	wantTexts(t, "not cat not set no cat set 98 not set no", "", "a", "aa", "aaa", "aaaa")
	wantTexts(t, "cat not cat set 97 set 98 set 98", "b", "ab", "bb", "aab", "bab", "bbb", "aaab", "aabb", "abab", "abbb", "baab", "babb", "bbab", "bbbb")
	wantTexts(t, "and cat not set 97 set 97 star set 97", "a", "aaa", "aaaa")
	// An a and nothing behind it is such a piece, and so two of them are.
	wantTexts(t, "star cat set 97 not set 97", append(startsWith("a"), "")...)
}

func TestMatchLongAtEachPlace(t *testing.T) {
	for _, c := range []struct {
		rex  string
		text string
		want []int
	}{
		{"star cat set 97 set 98", "xababa", []int{0, 4, 0, 2, 0, 0, 0}},
		{"cat set 97 star set 98", "abbaab", []int{3, -1, -1, 1, 2, -1, -1}},
		{"cat set 97 star set 98", "", []int{-1}},
		{"or set 97 cat set 97 cat set 98 set 98", "abbab", []int{3, -1, -1, 1, -1, -1}},
		{"or set 97 cat set 97 cat set 98 set 98", "aba", []int{1, -1, 1, -1}},
		{"empty", "aa", []int{0, 0, 0}},
		{"set no", "aa", []int{-1, -1, -1}},
		{"not set no", "abc", []int{3, 2, 1, 0}},
		{"not empty", "abc", []int{3, 2, 1, -1}},
		{"not star set 97", "aba", []int{3, 2, -1, -1}},
		{"not star set 97", "aab", []int{3, 2, 1, -1}},
		{"not cat set 97 not set no", "aba", []int{0, 2, 0, 0}},
		{"and star set 97-98 not cat star set 97-98 set 98", "abab", []int{3, 2, 1, 0, 0}},
		{"set 0-255", "\x00\xff", []int{1, 1, -1}},
		{"cat set 195 set 169", "aéé", []int{-1, 2, -1, 2, -1, -1}},
		{"star set 97", "aaaaaaaaaaaa", []int{12, 11, 10, 9, 8, 7, 6, 5, 4, 3, 2, 1, 0}},
		{"cat star set 97 set 98", "aaaaaaaaaaab", []int{12, 11, 10, 9, 8, 7, 6, 5, 4, 3, 2, 1, -1}},
	} {
		r := readRex(t, c.rex)
		for at := -5; at <= len(c.text)+5; at++ {
			want := -1
			if at >= 0 && at <= len(c.text) {
				want = c.want[at]
			}
			if n := impl.MatchLong(r, c.text, at); n != want {
				t.Errorf("%q from %d on: %d bytes, not %d, are like %q", c.text, at, n, want, c.rex)
			}
		}
		wantLike(t, r, c.text)
	}
}

func TestMatchOf12BytesAndOneMore(t *testing.T) {
	for _, rex := range []string{"not set no", "star set 0-255", "not empty", "star set 97", "not set 97", "star star or set 97 empty", "cat not empty star set 97", "not star set 98"} {
		r := readRex(t, rex)
		for size := range impl.MatchMax + 1 {
			wantLike(t, r, strings.Repeat("a", size))
		}
		twelve := strings.Repeat("a", 12)
		if !impl.MatchIs(r, twelve) || impl.MatchLong(r, twelve, 0) != 12 {
			t.Errorf("12 bytes are not like %q", rex)
		}
		for _, more := range []int{13, 14, 15, 16, 17, 31, 32, 33, 63, 64, 65, 128, 256, 256 + 12, 1 << 16} {
			text := strings.Repeat("a", more)
			if impl.MatchIs(r, text) {
				t.Errorf("%d bytes are like %q", more, rex)
			}
			// What is left from a place on may be short: the text is not.
			for _, at := range []int{math.MinInt, -1, 0, 1, 2, 12, 13, more - 13, more - 12, more - 11, more - 1, more, more + 1, math.MaxInt} {
				wantNoLong(t, r, text, at)
			}
		}
	}
}

func TestMatchOfEachByte(t *testing.T) {
	sets := spreadSets()
	for _, f := range append(sets, edgeSets()[:40]...) {
		r := setRex(f.spans()...)
		for b := range 256 {
			text := string([]byte{byte(b)})
			want := -1
			if f[b] {
				want = 1
			}
			if impl.MatchIs(r, text) != f[b] || impl.MatchIs(notRex(r), text) == f[b] || impl.MatchLong(r, text, 0) != want || impl.MatchLong(r, text+"a", 0) != want || impl.MatchLong(r, "a"+text, 1) != want {
				t.Fatalf("byte %d and %q", b, plainText(r))
			}
			if impl.MatchIs(r, text+text) || impl.MatchIs(r, "") || impl.MatchIs(starRex(r), text+text) != f[b] {
				t.Fatalf("byte %d twice, and %q", b, plainText(r))
			}
		}
	}
}

// Texts are bytes, whatever runes these may be, or may not be.
func TestMatchOfBytesThatAreNoRunes(t *testing.T) {
	for _, text := range []string{"é", "\xc3", "\xa9", "\xa9\xc3", "\xff\xfe", "\x00", "a\x00b", "日", "\xed\xa0\x80", "\xf4\x90\x80\x80", "\ufffd", "\r\n"} {
		r := emptyRex()
		for at := len(text) - 1; at >= 0; at-- {
			r = catRex(byteRex(int(text[at])), r)
		}
		if !impl.MatchIs(r, text) || impl.MatchIs(r, text[1:]) || impl.MatchIs(r, text+text) || impl.MatchIs(notRex(r), text) {
			t.Errorf("%q", text)
		}
		wantLike(t, r, text)
		wantLike(t, r, text+"a")
		wantLike(t, catRex(setRex(impl.Span{Lo: 0, Hi: 255}), notRex(r)), "a"+text)
	}
}

func TestMatchOfWrongParts(t *testing.T) {
	for what, part := range wrongParts() {
		for _, text := range []string{"", "a", "ab", "aaaaaaaaaaaa"} {
			wantUnlike(t, what, part, text)
			wantUnlike(t, "not "+what, notRex(part), text)
			wantUnlike(t, "star of "+what, starRex(part), text)
			wantUnlike(t, "all, or "+what, orRex(notRex(setRex()), part), text)
			wantUnlike(t, what+", or all", orRex(part, notRex(setRex())), text)
			wantUnlike(t, "nothing ahead of "+what, notRex(catRex(setRex(), part)), text)
		}
		for how, by := range wraps() {
			wantUnlike(t, fmt.Sprint(what, " in 7 of ", how), around(part, 7, by), "a")
		}
	}
}

func TestMatchOfTheMostPartsAndOneMore(t *testing.T) {
	leaf := func(i int) impl.Rex { return starRex(setRex(impl.Span{Lo: 97, Hi: 97 + i%3})) }
	full := starRex(orRex(fullTree(7, leaf), emptyRex()))
	if plainMany(full) != 23 {
		t.Fatalf("%d parts", plainMany(full))
	}
	for _, r := range []impl.Rex{starRex(full), notRex(full)} {
		for _, text := range []string{"", "a", "abcabcabcabc", "aaaaaaaaaaaa", "abcabcabcabd", "d"} {
			wantLike(t, r, text)
			wantUnlike(t, "25 parts", starRex(r), text)
			wantUnlike(t, "25 parts", notRex(r), text)
			wantUnlike(t, "26 parts", orRex(emptyRex(), r), text)
		}
	}
	for how, by := range wraps() {
		for _, leaf := range []impl.Rex{emptyRex(), byteRex(97)} {
			for _, text := range []string{"", "a", "aa", "aaaaaaaaaaaa"} {
				wantLike(t, around(leaf, 7, by), text)
				wantUnlike(t, "8 of "+how, around(leaf, 8, by), text)
			}
		}
	}
}

func TestMatchOfWhatHasNoEnd(t *testing.T) {
	for _, many := range []int{1, 2, 8, 30} {
		for _, text := range []string{"", "a", "aaaaaaaaaaaaa"} {
			wantUnlike(t, "a ring", ring(many, impl.RexStar, 1), text)
			wantUnlike(t, "a ring of pairs", ring(many, impl.RexCat, 2), text)
			wantUnlike(t, "a ring of nots", notRex(ring(many, impl.RexNot, 1)), text)
		}
	}
	deep := around(emptyRex(), 200000, func(_ int, r impl.Rex) impl.Rex { return starRex(r) })
	broad := around(emptyRex(), 200, func(_ int, r impl.Rex) impl.Rex { return catRex(r, r) })
	for _, r := range []impl.Rex{deep, broad, {Kind: impl.RexOr, Kids: make([]impl.Rex, 200000)}} {
		wantUnlike(t, "too many parts", r, "")
		wantUnlike(t, "too many parts", r, "a")
	}
}

// A list that lies in two places is two parts, each at its own place.
func TestMatchOfListsThatShare(t *testing.T) {
	kids := []impl.Rex{byteRex('a'), byteRex('b')}
	one := impl.Rex{Kind: impl.RexCat, Kids: kids}
	two := impl.Rex{Kind: impl.RexOr, Kids: kids}
	for _, r := range []impl.Rex{catRex(one, one), catRex(one, two), orRex(one, two), andRex(starRex(two), notRex(one)), catRex(starRex(one), starRex(one)), {Kind: impl.RexStar, Kids: kids[:1]}, {Kind: impl.RexNot, Kids: kids[1:]}} {
		for _, text := range textsOf("ab", 5) {
			wantLike(t, r, text)
		}
	}
}

func TestMatchOfEmptyAndNilLists(t *testing.T) {
	for _, set := range [][]impl.Span{nil, {}, make([]impl.Span, 0, 4)} {
		nothing := impl.Rex{Kind: impl.RexSet, Set: set, Kids: []impl.Rex{}}
		empty := impl.Rex{Kind: impl.RexEmpty, Set: set, Kids: make([]impl.Rex, 0, 2)}
		for _, text := range []string{"", "a", "aa"} {
			if impl.MatchIs(nothing, text) || !impl.MatchIs(notRex(nothing), text) || impl.MatchIs(empty, text) != (text == "") || impl.MatchIs(starRex(nothing), text) != (text == "") {
				t.Errorf("%q and %v", text, set)
			}
		}
	}
}

func TestMatchChangesNoArgument(t *testing.T) {
	var d dice = 13
	for _, r := range append(memoryRexes(), letterRexes(200)...) {
		given, text := roomyRex(r), letterText(&d, d.upTo(impl.MatchMax+3))
		before := wholeRex(given)
		is := impl.MatchIs(given, text)
		for at := -1; at <= len(text)+1; at++ {
			impl.MatchLong(given, text, at)
		}
		if !plainSame(wholeRex(given), before) {
			t.Fatalf("%v is changed", r)
		}
		if impl.MatchIs(r, text) != is || impl.MatchIs(given, text) != is {
			t.Fatalf("%q and %v: what lies behind the ends of lists counts", text, r)
		}
	}
}

// No call hangs on those ahead of it, nor on those beside it.
func TestMatchKeepsNothing(t *testing.T) {
	var d dice = 17
	list := letterRexes(300)
	texts := make([]string, len(list))
	first := make([]bool, len(list))
	for i, r := range list {
		texts[i] = letterText(&d, d.upTo(impl.MatchMax+1))
		first[i] = impl.MatchIs(r, texts[i])
	}
	for worker := range 4 {
		t.Run(fmt.Sprint("worker ", worker), func(t *testing.T) {
			t.Parallel()
			for i := len(list) - 1; i >= 0; i-- {
				impl.MatchLong(list[i], texts[(i+worker)%len(texts)], worker)
				if impl.MatchIs(list[i], texts[i]) != first[i] {
					t.Fatalf("%q and %q: another answer than the first time", texts[i], plainText(list[i]))
				}
			}
		})
	}
}
