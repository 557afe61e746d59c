package tests

import (
	"fmt"
	"math"
	"slices"
	"strings"
	"testing"

	"loop.example/carding/impl"
)

// plainLeft is what the words say is left, each part anew, of any size.
func plainLeft(r impl.Rex, b int) impl.Rex {
	var kids []impl.Rex
	for _, kid := range r.Kids {
		kids = append(kids, plainLeft(kid, b))
	}
	switch r.Kind {
	case impl.RexSet:
		if slices.ContainsFunc(r.Set, func(p impl.Span) bool { return p.Lo <= b && b <= p.Hi }) {
			return emptyRex()
		}
	case impl.RexCat:
		left := plainCat(kids[0], r.Kids[1])
		if likeEmpty(r.Kids[0]) {
			left = plainOr(left, kids[1])
		}
		return left
	case impl.RexOr:
		return plainOr(kids[0], kids[1])
	case impl.RexAnd:
		return plainAnd(kids[0], kids[1])
	case impl.RexStar:
		return plainCat(kids[0], r)
	case impl.RexNot:
		return plainNot(kids[0])
	}
	return setRex()
}

// plainBehind is what is left of one that is ok behind each byte in turn; a Rex of Kind 0, if it has more than 120 parts once.
func plainBehind(r impl.Rex, text string) impl.Rex {
	left := plainNorm(r)
	for _, b := range []byte(text) {
		left = plainLeft(left, int(b))
		if plainMany(left) > 120 {
			return impl.Rex{}
		}
	}
	return left
}

// plainEver is all that is ever left of one that is ok, and how many parts the greatest has; it ends early where they are more than most, or one has more parts than so many.
func plainEver(r impl.Rex, most, parts int) (list []impl.Rex, greatest int) {
	list = []impl.Rex{plainNorm(r)}
	greatest = plainMany(list[0])
	for place := 0; place < len(list) && len(list) <= most; place++ {
		for _, part := range impl.SetParts(plainSets(r)) {
			left := plainLeft(list[place], part[0].Lo)
			greatest = max(greatest, plainMany(left))
			if greatest > parts {
				return list, greatest
			}
			if !slices.ContainsFunc(list, func(other impl.Rex) bool { return plainSame(left, other) }) {
				list = append(list, left)
			}
		}
	}
	return list, greatest
}

func plainAllLeft(r impl.Rex) ([]impl.Rex, bool) {
	list, greatest := plainEver(r, 40, 120)
	if len(list) > 40 || greatest > 120 {
		return nil, false
	}
	return list, true
}

// noByteNumbers is numbers that are no byte, among them such that are one modulo 256.
func noByteNumbers() []int {
	return []int{-1, -2, -97, -159, -255, -256, 256, 257, 353, 354, 511, 512, 1 << 16, 1<<16 + 97, 1<<32 + 97, -1 << 32, math.MaxInt, math.MaxInt - 1, math.MinInt, math.MinInt + 97}
}

// someBytes is both ends of all bytes, letters that sets have, and such that none has.
func someBytes() []int {
	return []int{0, 1, 96, 97, 98, 99, 127, 128, 254, 255}
}

func wantBy(t *testing.T, r impl.Rex, b int) impl.Rex {
	t.Helper()
	got, want := impl.DerivBy(r, b), plainLeft(plainNorm(r), b)
	if !plainSame(got, want) {
		t.Fatalf("%q behind byte %d: %q, not %q", plainText(r), b, plainText(got), plainText(want))
	}
	return got
}

func wantBehind(t *testing.T, r impl.Rex, text string) impl.Rex {
	t.Helper()
	got, want := impl.DerivText(r, text), plainBehind(r, text)
	if !plainSame(got, want) {
		t.Fatalf("%q behind %q: %q, not %q", plainText(r), text, plainText(got), plainText(want))
	}
	return got
}

// wantAll asks for all that is ever left, with as many as may be told below, at and above how many there are.
func wantAll(t *testing.T, r impl.Rex) []impl.Rex {
	t.Helper()
	want, can := plainAllLeft(r)
	least := len(want)
	if !can {
		least = math.MaxInt
	}
	for _, most := range []int{math.MinInt, -40, -1, 0, 1, 2, len(want) - 2, len(want) - 1, len(want), len(want) + 1, 39, 40, 41, 42, 1000, math.MaxInt} {
		list, ok := impl.DerivAll(r, most)
		if ok != (can && most >= least) {
			t.Fatalf("all of %q, at most %d: %t and %d, there are %d", plainText(r), most, ok, len(list), len(want))
		}
		if !ok && len(list) != 0 || ok && !slices.EqualFunc(list, want, plainSame) {
			t.Fatalf("all of %q, at most %d: %q, not %q", plainText(r), most, textsOfAll(list), textsOfAll(want))
		}
	}
	return want
}

func textsOfAll(list []impl.Rex) []string {
	var out []string
	for _, r := range list {
		out = append(out, plainText(r))
	}
	return out
}

// wantMeaning asks whether the same texts are like what is left as are like the whole with the byte ahead; the texts are all of some letters, among which the byte is.
func wantMeaning(t *testing.T, r, left impl.Rex, b int, letters string, most int) {
	t.Helper()
	ahead, texts := string([]byte{byte(b)}), textsOf(letters, most)
	whole, rest := languageOf(r, textsOf(letters, most+1)), languageOf(left, texts)
	for _, text := range texts {
		if rest.has(text) != whole.has(ahead+text) {
			t.Fatalf("%q is like %q: %t; behind byte %d %q is left, and %q is like that: %t", ahead+text, plainText(r), whole.has(ahead+text), b, plainText(left), text, rest.has(text))
		}
	}
}

// wantLeftText asks for the text of what is left, by the text and byte by byte.
func wantLeftText(t *testing.T, rex, text, want string) {
	t.Helper()
	r := readRex(t, rex)
	if got := plainText(wantBehind(t, r, text)); got != want {
		t.Errorf("%q behind %q: %q, not %q", rex, text, got, want)
	}
	if len(text) == 1 {
		if got := plainText(wantBy(t, r, int(text[0]))); got != want {
			t.Errorf("%q behind byte %d: %q, not %q", rex, text[0], got, want)
		}
	}
}

func TestDerivOfEachKind(t *testing.T) {
	for _, c := range [][3]string{
		{"set 97", "a", "empty"},
		{"set 97", "b", "set no"},
		{"set 97", "aa", "set no"},
		{"set 97-99", "b", "empty"},
		{"set 97,99", "b", "set no"},
		{"set 97,99", "c", "empty"},
		{"set no", "a", "set no"},
		{"set 0-255", "a", "empty"},
		{"empty", "a", "set no"},
		{"empty", "aa", "set no"},

		{"or set 97 set 98", "a", "empty"},
		{"or set 97 empty", "a", "empty"},
		{"or set 97 empty", "b", "set no"},
		{"or cat set 97 set 98 cat set 97 set 99", "a", "set 98-99"},
		{"or cat set 97 set 98 cat set 98 set 99", "b", "set 99"},
		{"or cat set 97 star set 98 cat set 97 star set 97", "a", "or star set 97 star set 98"},
		{"or cat set 97 star set 98 cat set 97-98 star set 98", "a", "star set 98"},
		{"or cat set 97 not set no set 98", "a", "not set no"},
		{"or cat set 97 not set no set 98", "b", "empty"},
		{"or not set no set 97", "b", "not set no"},

		{"star set 97", "a", "star set 97"},
		{"star set 97", "b", "set no"},
		{"star empty", "a", "set no"},
		{"star set no", "a", "set no"},
		{"star cat set 97 set 98", "a", "cat set 98 star cat set 97 set 98"},
		{"star cat set 97 set 98", "ab", "star cat set 97 set 98"},
		{"star cat set 97 set 98", "aa", "set no"},
		{"star or set 97 cat set 97 set 98", "a", "cat or empty set 98 star or cat set 97 set 98 set 97"},
		{"star or set 97 cat set 97 set 98", "ab", "star or cat set 97 set 98 set 97"},
		{"star not set no", "a", "cat not set no star not set no"},

		{"and set 97-98 set 98-99", "b", "empty"},
		{"and set 97-98 set 98-99", "a", "set no"},
		{"and star set 97 star set 97-98", "a", "and star set 97 star set 97-98"},
		{"and star set 97 star set 97-98", "b", "set no"},
		{"and cat set 97 set 97-98 cat set 97 set 98-99", "a", "set 98"},
		{"and cat set 97 set 97 cat set 97 set 98", "a", "set no"},
		{"and cat set 97 not set no cat set 97 set 98", "a", "set 98"},
		{"and cat set 97 not set no cat set 97 not set no", "a", "not set no"},
		{"and star set 97 not empty", "a", "star set 97"},
		{"and star set 97 not set 97", "a", "and not empty star set 97"},

		{"not set 97", "a", "not empty"},
		{"not set 97", "b", "not set no"},
		{"not set 97", "aa", "not set no"},
		{"not empty", "a", "not set no"},
		{"not set no", "a", "not set no"},
		{"not cat set 97 not set 98", "a", "set 98"},
		{"not cat set 97 not set 98", "b", "not set no"},
		{"not cat set 97 not set 98", "ab", "empty"},
		{"not not set no", "a", "set no"},
	} {
		wantLeftText(t, c[0], c[1], c[2])
	}
}

// What is left of the second kid counts just if the empty text is like the first, of whatever kind that is.
func TestDerivOfCatsByTheirFirstKid(t *testing.T) {
	for _, c := range [][3]string{
		{"cat set 97 set 98", "a", "set 98"},
		{"cat set 97 set 98", "b", "set no"},
		{"cat set 97 set 98", "ab", "empty"},
		{"cat set 97 set 97", "a", "set 97"},
		{"cat set no set 97", "a", "set no"},
		{"cat empty set 97", "a", "empty"},
		{"cat set 97 empty", "a", "empty"},
		{"cat set 97 cat set 98 set 99", "a", "cat set 98 set 99"},
		{"cat cat set 97 set 98 set 99", "a", "cat set 98 set 99"},

		{"cat star set 97 set 98", "a", "cat star set 97 set 98"},
		{"cat star set 97 set 98", "b", "empty"},
		{"cat star set 97 set 98", "c", "set no"},
		{"cat star set 97 set 97", "a", "or cat star set 97 set 97 empty"},
		{"cat star set 97 star set 97", "a", "or cat star set 97 star set 97 star set 97"},
		{"cat star set 97 cat star set 98 set 99", "b", "cat star set 98 set 99"},
		{"cat star set 97 cat star set 98 set 99", "c", "empty"},
		{"cat star set 97 cat set 98 set 99", "c", "set no"},
		{"cat star set 97 empty", "a", "star set 97"},

		{"cat or empty set 97 cat set 97 set 98", "a", "or cat set 97 set 98 set 98"},
		{"cat or empty set 97 cat set 97 set 98", "aa", "set 98"},
		{"cat or empty set 97 set 97", "a", "or empty set 97"},
		{"cat or set 97 set 98 set 97", "a", "set 97"},
		{"cat or cat set 97 set 98 set 97 set 98", "a", "cat or empty set 98 set 98"},
		{"cat or cat set 97 set 98 set 97 set 98", "ab", "or empty set 98"},
		{"cat or cat star set 97 star set 98 set 99 set 97", "a", "or cat star set 97 cat star set 98 set 97 empty"},

		{"cat and star set 97 star set 98 set 99", "c", "empty"},
		{"cat and star set 97 star set 98 set 99", "a", "set no"},
		{"cat and star set 97 set 97 set 98", "b", "set no"},
		{"cat and star set 97 set 97 set 98", "a", "cat and empty star set 97 set 98"},

		{"cat not set 97 set 98", "b", "or cat not set no set 98 empty"},
		{"cat not set 97 set 98", "a", "cat not empty set 98"},
		{"cat not set 97 set 98", "ab", "cat not set no set 98"},
		{"cat not empty set 98", "b", "cat not set no set 98"},
		{"cat not star set 97 set 97", "a", "cat not star set 97 set 97"},
		{"cat not star set 97 set 98", "b", "cat not set no set 98"},
		{"cat not set no set 98", "b", "or cat not set no set 98 empty"},
		{"cat not not star set 97 set 98", "b", "empty"},

		{"star cat star set 97 set 98", "a", "cat star set 97 cat set 98 star cat star set 97 set 98"},
		{"star cat star set 97 set 98", "ab", "star cat star set 97 set 98"},
		{"star cat star set 97 set 98", "b", "star cat star set 97 set 98"},
		{"not cat star set 97 set 98", "b", "not empty"},
	} {
		wantLeftText(t, c[0], c[1], c[2])
	}
}

func TestDerivOfAllSmallOnes(t *testing.T) {
	for many := 1; many <= 5; many++ {
		for _, r := range smallRexes(many) {
			for _, b := range someBytes() {
				wantBy(t, r, b)
			}
			for _, b := range []int{'a', 'b'} {
				wantMeaning(t, r, impl.DerivBy(r, b), b, "ab", 2)
			}
			for _, text := range textsOf("ab", 2) {
				wantBehind(t, r, text)
			}
			if many < 5 {
				wantAll(t, r)
			}
		}
	}
}

func TestDerivOfSpreadOnes(t *testing.T) {
	var d dice = 31
	for i, r := range spreadRexes() {
		for _, b := range []int{0, 255, d.upTo(256), d.upTo(256)} {
			wantBy(t, r, b)
		}
		if i%10 == 0 {
			wantBehind(t, r, string([]byte{byte(d.upTo(256)), byte(d.upTo(256)), byte(d.upTo(256))}))
		}
	}
	for i, r := range letterRexes(1000) {
		for _, b := range []int{'a', 'b', 'c'} {
			left := wantBy(t, r, b)
			if i%4 == 0 {
				wantMeaning(t, r, left, b, "abc", 3)
			}
		}
	}
}

// A text is like what is left behind a byte just if it is like the whole with that byte ahead.
func TestDerivMeansWhatIsBehindTheByte(t *testing.T) {
	var d dice = 33
	like := 0
	for _, r := range letterRexes(1200) {
		text := letterText(&d, 1+d.upTo(impl.MatchMax))
		left, rest := impl.DerivBy(r, int(text[0])), text[1:]
		is := impl.MatchIs(r, text)
		if piecesOf(left, rest)[0][len(rest)] != is || impl.RexOk(left) && impl.MatchIs(left, rest) != is {
			t.Fatalf("%q is like %q: %t; %q is left, and %q", text, plainText(r), is, plainText(left), rest)
		}
		if is {
			like++
		}
	}
	if like < 200 || like > 1000 {
		t.Errorf("%d of them are like it", like)
	}
}

func TestDerivTextMeansWhatIsBehindTheText(t *testing.T) {
	var d dice = 35
	big := 0
	for _, r := range letterRexes(700) {
		text := letterText(&d, d.upTo(impl.MatchMax+1))
		left := wantBehind(t, r, text)
		if left.Kind == 0 {
			big++
			continue
		}
		if impl.MatchIs(r, text) != likeEmpty(left) {
			t.Fatalf("%q behind %q: %q", plainText(r), text, plainText(left))
		}
		for cut := range len(text) + 1 {
			head, rest := text[:cut], text[cut:]
			if piecesOf(impl.DerivText(r, head), rest)[0][len(rest)] != impl.MatchIs(r, text) {
				t.Fatalf("%q behind %q, and %q", plainText(r), head, rest)
			}
		}
	}
	if big == 0 || big > 350 {
		t.Errorf("%d are too big", big)
	}
}

// Behind a text is behind its first byte, and of what is left then behind the others.
func TestDerivTextIsByteByByte(t *testing.T) {
	var d dice = 37
	again := 0
	for _, r := range letterRexes(500) {
		if got := impl.DerivText(r, ""); !plainSame(got, impl.Norm(r)) {
			t.Fatalf("%q behind the empty text: %q", plainText(r), plainText(got))
		}
		text := letterText(&d, 2+d.upTo(4))
		first := impl.DerivBy(r, int(text[0]))
		if got := impl.DerivText(r, text[:1]); !plainSame(got, first) {
			t.Fatalf("%q behind %q: %q, not %q", plainText(r), text[:1], plainText(got), plainText(first))
		}
		if !impl.RexOk(first) {
			continue
		}
		again++
		if got, want := impl.DerivText(r, text), impl.DerivText(first, text[1:]); !plainSame(got, want) {
			t.Fatalf("%q behind %q: %q, not %q", plainText(r), text, plainText(got), plainText(want))
		}
	}
	if again < 200 {
		t.Errorf("only %d", again)
	}
}

func TestDerivTextOf12BytesAndOneMore(t *testing.T) {
	for rex, want := range map[string]string{
		"star set 97":                           "star set 97",
		"star cat set 97 set 97":                "star cat set 97 set 97",
		"star cat set 97 cat set 97 set 97":     "star cat set 97 cat set 97 set 97",
		"cat star set 97 set 98":                "cat star set 97 set 98",
		"not star set 97":                       "not star set 97",
		"not set no":                            "not set no",
		"set no":                                "set no",
		"empty":                                 "set no",
		"set 97":                                "set no",
		"star cat set 97 set 98":                "set no",
		"and star set 97 star cat empty set 97": "star set 97",
	} {
		wantLeftText(t, rex, "aaaaaaaaaaaa", want)
		r := readRex(t, rex)
		for _, size := range []int{13, 14, 24, 200, 255, 256, 257, 268, 1 << 16, 1<<16 + 12} {
			if got := impl.DerivText(r, strings.Repeat("a", size)); !plainSame(got, impl.Rex{}) {
				t.Errorf("%q behind %d bytes: %q", rex, size, plainText(got))
			}
		}
		for size := range 13 {
			if got := wantBehind(t, r, strings.Repeat("a", size)); got.Kind == 0 {
				t.Errorf("%q behind %d bytes: none", rex, size)
			}
		}
	}
	any := starRex(setRex(allBytes...))
	for _, text := range []string{"éééééé", "日本語日", "\x00\x00\x00\x00\x00\x00\x00\x00\x00\x00\x00\x00", "\xff\xfe\x80\xff\xfe\x80\xff\xfe\x80\xff\xfe\x80"} {
		if got := impl.DerivText(any, text); !plainSame(got, any) {
			t.Errorf("behind %q: %q", text, plainText(got))
		}
		for _, more := range []string{text + "a", text + "\x00", "\xff" + text, text + text} {
			if got := impl.DerivText(any, more); !plainSame(got, impl.Rex{}) {
				t.Errorf("behind %q: %q", more, plainText(got))
			}
		}
	}
}

func TestDerivAtBothEndsOfAllBytes(t *testing.T) {
	for _, c := range [][3]string{
		{"set 0", "\x00", "empty"},
		{"set 0", "\x01", "set no"},
		{"set 0", "\xff", "set no"},
		{"set 255", "\xff", "empty"},
		{"set 255", "\xfe", "set no"},
		{"set 255", "\x00", "set no"},
		{"set 1-254", "\x00", "set no"},
		{"set 1-254", "\xff", "set no"},
		{"set 0,255", "\x00", "empty"},
		{"set 0,255", "\xff", "empty"},
		{"set 0-255", "\x00", "empty"},
		{"set 0-255", "\xff", "empty"},
		{"cat set 0 set 255", "\x00", "set 255"},
		{"cat set 0 set 255", "\x00\xff", "empty"},
		{"cat set 255 set 0", "\xff", "set 0"},
		{"cat star set 0 set 255", "\x00\x00\xff", "empty"},
		{"not set 0", "\x00", "not empty"},
		{"not set 255", "\xff", "not empty"},
		{"star set 128-255", "\x80\xff", "star set 128-255"},
		{"star set 0-127", "\x80", "set no"},
	} {
		wantLeftText(t, c[0], c[1], c[2])
	}
}

// Each byte counts by itself, whatever a text holds: none of them is part of a rune.
func TestDerivOfEachByte(t *testing.T) {
	for b := range 256 {
		for other := range 256 {
			want := setRex()
			if b == other {
				want = emptyRex()
			}
			if got := impl.DerivBy(byteRex(b), other); !plainSame(got, want) {
				t.Fatalf("%d behind %d: %q", b, other, plainText(got))
			}
			if got := impl.DerivText(byteRex(b), string([]byte{byte(other)})); !plainSame(got, want) {
				t.Fatalf("%d behind the text of %d: %q", b, other, plainText(got))
			}
		}
	}
}

func TestDerivOfBytesOfNoSet(t *testing.T) {
	for rex, want := range map[string]string{
		"set 97":                                  "set no",
		"empty":                                   "set no",
		"star set 97":                             "set no",
		"cat star set 97 star set 98":             "set no",
		"cat or empty set 97 or empty set 98":     "set no",
		"or set 97 star set 98":                   "set no",
		"and star set 97 star set 97-98":          "set no",
		"not set 97":                              "not set no",
		"not empty":                               "not set no",
		"not cat star set 97 set 98":              "not set no",
		"or set 97 not set 98":                    "not set no",
		"and not set 97 not set 98":               "not set no",
		"and set 97 not set 98":                   "set no",
		"cat not set 97 set 98":                   "cat not set no set 98",
		"star not set 97":                         "cat not set no star not set 97",
		"cat star set 97 not set 98":              "not set no",
		"cat not set 97 not set 98":               "not set no",
		"not and star set 97 cat set 97 set 98":   "not set no",
		"not or not set 97 star set 98":           "set no",
		"cat star set 97 cat not set 98 set 99":   "cat not set no set 99",
		"or cat not set 97 set 98 star set 97-98": "cat not set no set 98",
	} {
		for _, b := range []int{0, 'd', 'z', 128, 254, 255} {
			if got := plainText(wantBy(t, readRex(t, rex), b)); got != want {
				t.Errorf("%q behind byte %d: %q, not %q", rex, b, got, want)
			}
			wantLeftText(t, rex, string([]byte{byte(b)}), want)
		}
	}
}

func TestDerivByOfNoByte(t *testing.T) {
	list := append(letterRexes(100), setRex(allBytes...), setRex(), emptyRex(), allRex(), starRex(setRex(allBytes...)), byteRex(0), byteRex(255), notRex(byteRex(0)))
	for _, r := range list {
		for _, b := range append(noByteNumbers(), oddPlaces()...) {
			if 0 <= b && b <= 255 {
				continue
			}
			if got := impl.DerivBy(r, b); !plainSame(got, impl.Rex{}) {
				t.Fatalf("%q behind %d: %q", plainText(r), b, plainText(got))
			}
		}
	}
}

// It is left of Norm of it, also where that is deeper than what is ok.
func TestDerivIsOfNorm(t *testing.T) {
	for _, c := range [][3]string{
		{"not not set 97", "a", "empty"},
		{"star star star cat set 97 set 98", "a", "cat set 98 star cat set 97 set 98"},
		{"or set 98 set 97", "", "set 97-98"},
		{"cat cat set 97 set 98 set 99", "", "cat set 97 cat set 98 set 99"},
		{"and not set no star cat set 97 set 98", "a", "cat set 98 star cat set 97 set 98"},
		{"star or star set 98 set 97", "a", "star or set 97 star set 98"},
		{"star or star set 98 set 97", "b", "cat star set 98 star or set 97 star set 98"},
		{"cat or set 98 or set 97 star set 99 cat empty set 99", "c", "or cat star set 99 set 99 empty"},
	} {
		wantLeftText(t, c[0], c[1], c[2])
	}
	for _, kind := range []int{impl.RexCat, impl.RexOr, impl.RexAnd} {
		r := evenTree(kind, 8, func(i int) impl.Rex { return starRex(setRex(impl.Span{Lo: 97, Hi: 97 + i})) })
		if !impl.RexOk(r) || impl.RexOk(impl.Norm(r)) {
			t.Fatalf("%q is not ok, or Norm of it is", plainText(r))
		}
		for _, b := range someBytes() {
			wantBy(t, r, b)
		}
		for _, text := range []string{"", "a", "h", "ha", "ah", "aaa", "i", "ai"} {
			wantBehind(t, r, text)
		}
		wantAll(t, r)
	}
}

// What a cat has first counts as like the empty text or not, however many parts it has and however deep it is.
func TestDerivOfCatsWhoseFirstKidIsBig(t *testing.T) {
	many, deep := 0, 0
	for _, rex := range []string{
		"star cat star not cat set 97-98 set 97 set 97-98",
		"star not star not star not cat set 97-98 set 98",
		"not star not star cat star not set 97 set 98",
		"star not cat not star not cat set 97-98 set 97 set 97",
		"star cat not set 98 not star not or set 97 set 97",
		"star cat star not cat set 98 star set 97 star set 97-98",
	} {
		r := readRex(t, rex)
		for _, text := range textsOf("ab", 6) {
			left := wantBehind(t, r, text)
			if left.Kind == 0 {
				continue
			}
			bigFirstKids(left, func(first impl.Rex) {
				if plainMany(first) > impl.RexSize {
					many++
				}
				if plainDeep(first) >= impl.RexDeep {
					deep++
				}
			})
			wantMeaningOfText(t, r, left, text)
		}
	}
	if many < 50 || deep < 50 {
		t.Errorf("only %d of many parts, %d that are deep", many, deep)
	}
}

// bigFirstKids tells the first kids of cats that are like the empty text and are not ok by their size.
func bigFirstKids(r impl.Rex, tell func(first impl.Rex)) {
	if r.Kind == impl.RexCat && likeEmpty(r.Kids[0]) && !impl.RexOk(r.Kids[0]) {
		tell(r.Kids[0])
	}
	for _, kid := range r.Kids {
		bigFirstKids(kid, tell)
	}
}

func wantMeaningOfText(t *testing.T, r, left impl.Rex, text string) {
	t.Helper()
	for _, rest := range []string{"", "a", "b", "ab", "ba", "aab", "bba", "abab"} {
		if is := impl.MatchIs(r, text+rest); piecesOf(left, rest)[0][len(rest)] != is {
			t.Fatalf("%q is like %q: %t; %q is left behind %q", text+rest, plainText(r), is, plainText(left), text)
		}
	}
}

func TestDerivParts(t *testing.T) {
	for rex, want := range map[string][]string{
		"empty":                             {"0-255"},
		"star empty":                        {"0-255"},
		"set no":                            {"0-255"},
		"not set no":                        {"0-255"},
		"set 0-255":                         {"0-255"},
		"set 97":                            {"0-96,98-255", "97"},
		"set 0":                             {"0", "1-255"},
		"set 255":                           {"0-254", "255"},
		"not set 97":                        {"0-96,98-255", "97"},
		"cat set 97 set 97":                 {"0-96,98-255", "97"},
		"cat set 98 set 97":                 {"0-96,99-255", "97", "98"},
		"cat star set 97 set 98":            {"0-96,99-255", "97", "98"},
		"or set 97-98 set 98-99":            {"0-96,100-255", "97", "98", "99"},
		"or set 97 set 98":                  {"0-96,99-255", "97", "98"},
		"and set 97 set 98":                 {"0-96,99-255", "97", "98"},
		"cat set no set 97":                 {"0-96,98-255", "97"},
		"star and star set 0-9 set 9-255":   {"0-8", "9", "10-255"},
		"not cat set 1,3,5 not set 2-4":     {"0,6-255", "1,5", "2,4", "3"},
		"or not set no or set 97 not empty": {"0-96,98-255", "97"},
	} {
		var got []string
		for _, part := range impl.DerivParts(readRex(t, rex)) {
			got = append(got, impl.SetText(part))
		}
		if !slices.Equal(got, want) {
			t.Errorf("parts of %q: %q, not %q", rex, got, want)
		}
	}
	for _, r := range append(spreadRexes(), letterRexes(300)...) {
		want := impl.SetParts(plainSets(r))
		if got := impl.DerivParts(r); !slices.EqualFunc(got, want, slices.Equal[[]impl.Span]) {
			t.Fatalf("parts of %q: %v, not %v", plainText(r), got, want)
		}
	}
}

// Behind all bytes of one part the same is left.
func TestDerivPartsAreBytesThatLeaveTheSame(t *testing.T) {
	for i, r := range spreadRexes()[:400] {
		parts := impl.DerivParts(r)
		if i%8 != 0 && len(parts) > 6 {
			continue
		}
		bytes := 0
		for _, part := range parts {
			first := impl.DerivBy(r, impl.SetFirst(part))
			for b := range 256 {
				if !impl.SetHas(part, b) {
					continue
				}
				bytes++
				if left := impl.DerivBy(r, b); !plainSame(left, first) {
					t.Fatalf("%q behind %d: %q, and behind %v: %q", plainText(r), b, plainText(left), part, plainText(first))
				}
			}
		}
		if bytes != 256 {
			t.Fatalf("parts of %q: %v", plainText(r), parts)
		}
	}
}

func TestDerivAllInOrder(t *testing.T) {
	for rex, want := range map[string][]string{
		"set no":                                 {"set no"},
		"not set no":                             {"not set no"},
		"empty":                                  {"empty", "set no"},
		"not empty":                              {"not empty", "not set no"},
		"star empty":                             {"empty", "set no"},
		"star set 97":                            {"star set 97", "set no"},
		"star set 0":                             {"star set 0", "set no"},
		"star set 0-255":                         {"star set 0-255"},
		"set 97":                                 {"set 97", "set no", "empty"},
		"set 0":                                  {"set 0", "empty", "set no"},
		"set 0-254":                              {"set 0-254", "empty", "set no"},
		"set 255":                                {"set 255", "set no", "empty"},
		"set 0-255":                              {"set 0-255", "empty", "set no"},
		"and set 97 set 98":                      {"set no"},
		"or not set no set 97":                   {"not set no"},
		"cat set 97 set 98":                      {"cat set 97 set 98", "set no", "set 98", "empty"},
		"cat set 98 set 97":                      {"cat set 98 set 97", "set no", "set 97", "empty"},
		"cat set 0-97 set 98":                    {"cat set 0-97 set 98", "set 98", "set no", "empty"},
		"cat star set 97 set 98":                 {"cat star set 97 set 98", "set no", "empty"},
		"cat star set 0 set 98":                  {"cat star set 0 set 98", "set no", "empty"},
		"star cat set 97 set 98":                 {"star cat set 97 set 98", "set no", "cat set 98 star cat set 97 set 98"},
		"not set 97":                             {"not set 97", "not set no", "not empty"},
		"not set 0":                              {"not set 0", "not empty", "not set no"},
		"or cat set 98 set 99 cat set 97 set 99": {"or cat set 97 set 99 cat set 98 set 99", "set no", "set 99", "empty"},
		"or cat set 98 star set 99 cat set 97 set 98": {"or cat set 97 set 98 cat set 98 star set 99", "set no", "set 98", "star set 99", "empty"},
		"cat star set 97 star set 98":                 {"cat star set 97 star set 98", "set no", "star set 98"},
		"cat star set 97 star set 97":                 {"cat star set 97 star set 97", "set no", "or cat star set 97 star set 97 star set 97"},
	} {
		list := wantAll(t, readRex(t, rex))
		if got := textsOfAll(list); !slices.Equal(got, want) {
			t.Errorf("all of %q: %q, not %q", rex, got, want)
		}
	}
}

// busyRexes is such of which much is left: any number of them may begin at each byte.
func busyRexes(many int) []impl.Rex {
	var out []impl.Rex
	for i, r := range letterRexes(many) {
		busy := starRex(catRex(starRex(r), byteRex('a'+i%2)))
		if impl.RexOk(busy) {
			out = append(out, busy)
		}
	}
	return out
}

func TestDerivAllOfSpreadOnes(t *testing.T) {
	told, none := 0, 0
	for _, r := range slices.Concat(letterRexes(300), busyRexes(900), spreadRexes()[:100]) {
		if len(impl.DerivParts(r)) > 40 {
			continue
		}
		if len(wantAll(t, r)) == 0 {
			none++
		} else {
			told++
		}
	}
	if told < 400 || none < 25 {
		t.Errorf("of %d all is told, of %d it is not", told, none)
	}
}

// What is left of one that is told, behind whatever byte, is told too; each but the first is left of one ahead of it; none is told twice.
func TestDerivAllIsAllThatIsEverLeft(t *testing.T) {
	told := 0
	for i, r := range letterRexes(400) {
		list, ok := impl.DerivAll(r, impl.DerivMost)
		if !ok || i%4 != 0 && len(list) > 6 {
			continue
		}
		told++
		places := map[string]int{}
		for place, left := range list {
			text := plainText(left)
			if other, had := places[text]; had {
				t.Fatalf("all of %q: %q is told at %d and %d", plainText(r), text, other, place)
			}
			places[text] = place
		}
		if !plainSame(list[0], impl.Norm(r)) {
			t.Fatalf("all of %q: first is %q", plainText(r), plainText(list[0]))
		}
		reached := make([]bool, len(list))
		for place, one := range list {
			for b := range 256 {
				if 3 < b && b < 253 && (b < 95 || b > 101) && b%16 != 0 {
					continue
				}
				to, had := places[plainText(plainLeft(one, b))]
				if !had {
					t.Fatalf("all of %q: what is left of %q behind %d is not told", plainText(r), plainText(one), b)
				}
				reached[to] = reached[to] || place < to
			}
		}
		if place := slices.Index(reached[1:], false); place >= 0 {
			t.Fatalf("all of %q: %q is left of none ahead of it", plainText(r), plainText(list[place+1]))
		}
		for _, text := range textsOf("abc", 3) {
			if _, had := places[plainText(impl.DerivText(r, text))]; !had {
				t.Fatalf("all of %q: what is left behind %q is not told", plainText(r), text)
			}
		}
	}
	if told < 100 {
		t.Errorf("only %d", told)
	}
}

// fortyLeft and oneMoreLeft are such that all that is ever left are 40 and 41, none of them too big.
const (
	fortyLeft   = "star cat cat star set 98 cat set 97-98 set 97-98 cat set 97-98 set 97"
	oneMoreLeft = "star cat cat set 97 set 98 or star cat set 97-98 set 97-98 cat set 97 star set 97-98"
)

func TestDerivAllOf40AndOneMore(t *testing.T) {
	forty, more := readRex(t, fortyLeft), readRex(t, oneMoreLeft)
	if list := wantAll(t, forty); len(list) != 40 {
		t.Errorf("%d of %q", len(list), fortyLeft)
	}
	if list, greatest := plainEver(more, 60, 200); len(list) != 41 || greatest > 120 {
		t.Fatalf("%d of %q, of %d parts", len(list), oneMoreLeft, greatest)
	}
	for _, most := range []int{39, 40, 41, 42, 80, 1 << 20, math.MaxInt} {
		if got, ok := impl.DerivAll(more, most); ok || len(got) != 0 {
			t.Errorf("%q, at most %d: %t and %d", oneMoreLeft, most, ok, len(got))
		}
		if got, ok := impl.DerivAll(forty, most); ok != (most >= 40) || !ok && len(got) != 0 || ok && len(got) != 40 {
			t.Errorf("%q, at most %d: %t and %d", fortyLeft, most, ok, len(got))
		}
	}
}

func TestDerivAllOfMost(t *testing.T) {
	for rex, many := range map[string]int{"set no": 1, "not set no": 1, "empty": 2, "set 97": 3, "cat set 97 set 98": 4, "cat set 97 cat set 98 set 99": 5} {
		r := readRex(t, rex)
		for most := -50; most <= 50; most++ {
			list, ok := impl.DerivAll(r, most)
			if ok != (most >= many) || ok && len(list) != many || !ok && len(list) != 0 {
				t.Errorf("%q, at most %d: %t and %d, there are %d", rex, most, ok, len(list), many)
			}
		}
		for _, most := range []int{math.MinInt, math.MinInt + 1, -1 << 32} {
			if list, ok := impl.DerivAll(r, most); ok || len(list) != 0 {
				t.Errorf("%q, at most %d: %t and %d", rex, most, ok, len(list))
			}
		}
	}
}

// bigAtLast has just so many parts left behind the text, and never more ahead of that.
func bigAtLast(t *testing.T, rex, text string, many int) {
	t.Helper()
	left := plainNorm(readRex(t, rex))
	for i, b := range []byte(text) {
		left = plainLeft(left, int(b))
		if i+1 < len(text) && plainMany(left) > 120 || i+1 == len(text) && plainMany(left) != many {
			t.Fatalf("%q behind %q: %d parts", rex, text[:i+1], plainMany(left))
		}
	}
}

func TestDerivTextOf120PartsAndOneMore(t *testing.T) {
	full, more := "star cat star set 97 star cat set 97 cat set 97 set 97", "star not star cat set 97 or set 97 star set 97"
	bigAtLast(t, full, "aaa", 120)
	bigAtLast(t, more, "ababbababaaa", 121)
	if got := wantBehind(t, readRex(t, full), "aaa"); plainMany(got) != 120 {
		t.Errorf("%q: %d parts", full, plainMany(got))
	}
	if got := wantBehind(t, readRex(t, more), "ababbababaa"); got.Kind == 0 {
		t.Errorf("%q behind 11 bytes: none", more)
	}
	if got := wantBehind(t, readRex(t, more), "ababbababaaa"); !plainSame(got, impl.Rex{}) {
		t.Errorf("%q: %d parts", more, plainMany(got))
	}
}

// Once it is too big, nothing is told, however little is left behind the other bytes.
func TestDerivTextThatIsTooBigOnce(t *testing.T) {
	rex := "star cat star star cat star cat set 97 set 97 set 97 set 97"
	left, big := plainNorm(readRex(t, rex)), 0
	for _, b := range []byte("aaaaaab") {
		left = plainLeft(left, int(b))
		big = max(big, plainMany(left))
	}
	if big <= 120 || plainMany(left) != 1 {
		t.Fatalf("%d parts, then %d", big, plainMany(left))
	}
	for _, text := range []string{"aaaaaa", "aaaaaab", "aaaaaabb", "aaaaaabbbbbb"} {
		if got := wantBehind(t, readRex(t, rex), text); !plainSame(got, impl.Rex{}) {
			t.Errorf("behind %q: %q", text, plainText(got))
		}
	}
	for _, text := range []string{"", "a", "aa", "b", "ab", "abbbbbbbbbbb"} {
		if got := wantBehind(t, readRex(t, rex), text); got.Kind == 0 {
			t.Errorf("behind %q: none", text)
		}
	}
}

func TestDerivAllOf120PartsAndOneMore(t *testing.T) {
	full, more := readRex(t, "star cat star set 97 star cat cat set 97 set 97 set 97"), readRex(t, "star not star or cat set 98 set 97-98 star set 98")
	if list, greatest := plainEver(full, 60, 200); len(list) != 5 || greatest != 120 {
		t.Fatalf("%d of %q, of %d parts", len(list), plainText(full), greatest)
	}
	if list, greatest := plainEver(more, 60, 200); len(list) != 10 || greatest != 121 {
		t.Fatalf("%d of %q, of %d parts", len(list), plainText(more), greatest)
	}
	if list := wantAll(t, full); len(list) != 5 {
		t.Errorf("%q: %d", plainText(full), len(list))
	}
	if list := wantAll(t, more); len(list) != 0 {
		t.Errorf("%q: %d", plainText(more), len(list))
	}
}

// Behind one byte all is told, however many parts it has; behind a text of that byte it is not.
func TestDerivByOfManyParts(t *testing.T) {
	r := starRex(evenTree(impl.RexCat, 8, func(int) impl.Rex { return starRex(byteRex('a')) }))
	if !impl.RexOk(r) || plainMany(r) != 24 {
		t.Fatalf("%d parts", plainMany(r))
	}
	if left := wantBy(t, r, 'a'); plainMany(left) != 132 {
		t.Errorf("%d parts", plainMany(left))
	}
	if left := wantBehind(t, r, "a"); !plainSame(left, impl.Rex{}) {
		t.Errorf("%d parts", plainMany(left))
	}
	if left := wantBehind(t, r, "ab"); !plainSame(left, impl.Rex{}) {
		t.Errorf("%d parts", plainMany(left))
	}
	if left := wantBehind(t, r, "ba"); !plainSame(left, setRex()) {
		t.Errorf("%d parts", plainMany(left))
	}
	if list := wantAll(t, r); len(list) != 0 {
		t.Errorf("%d are told", len(list))
	}
}

// wantNoDeriv asks for each fixed answer of one that is not ok.
func wantNoDeriv(t *testing.T, what string, r impl.Rex) {
	t.Helper()
	for _, b := range []int{0, 'a', 255, -1, 256} {
		if got := impl.DerivBy(r, b); !plainSame(got, impl.Rex{}) {
			t.Errorf("%s, behind %d: of Kind %d", what, b, got.Kind)
		}
	}
	for _, text := range []string{"", "a", "ab", "aaaaaaaaaaaa", "aaaaaaaaaaaaa"} {
		if got := impl.DerivText(r, text); !plainSame(got, impl.Rex{}) {
			t.Errorf("%s, behind %q: of Kind %d", what, text, got.Kind)
		}
	}
	if parts := impl.DerivParts(r); len(parts) != 0 {
		t.Errorf("%s: parts %v", what, parts)
	}
	for _, most := range []int{-1, 0, 1, 40, 41, math.MaxInt} {
		if list, ok := impl.DerivAll(r, most); ok || len(list) != 0 {
			t.Errorf("%s, at most %d: %t and %d", what, most, ok, len(list))
		}
	}
}

func TestDerivOfWrongParts(t *testing.T) {
	for what, part := range wrongParts() {
		wantNoDeriv(t, what, part)
		for how, by := range wraps() {
			for _, others := range []int{1, 2, 7} {
				wantNoDeriv(t, fmt.Sprint(what, " in ", others, " of ", how), around(part, others, by))
			}
		}
		wantNoDeriv(t, "nothing ahead of "+what, catRex(setRex(), part))
		wantNoDeriv(t, "all, or "+what, orRex(allRex(), part))
		wantNoDeriv(t, what+" behind a set", catRex(byteRex(97), part))
	}
}

func TestDerivOf24PartsAnd7AroundAndOneMore(t *testing.T) {
	leaf := func(i int) impl.Rex { return setRex(impl.Span{Lo: 97, Hi: 97 + i}) }
	full := starRex(fullTree(12, leaf))
	if plainMany(full) != 24 {
		t.Fatalf("%d parts", plainMany(full))
	}
	for _, b := range someBytes() {
		wantBy(t, full, b)
	}
	wantBehind(t, full, "abc")
	wantAll(t, full)
	if parts := impl.DerivParts(full); len(parts) != 13 {
		t.Errorf("parts %v", parts)
	}
	for _, more := range []impl.Rex{starRex(full), notRex(full), catRex(full, emptyRex()), orRex(setRex(), full), fullTree(13, leaf)} {
		wantNoDeriv(t, fmt.Sprint(plainMany(more), " parts"), more)
	}
	for how, by := range wraps() {
		for _, leaf := range []impl.Rex{emptyRex(), setRex(), byteRex(97)} {
			deep := around(leaf, 7, by)
			wantBy(t, deep, 97)
			wantBehind(t, deep, "aa")
			wantAll(t, deep)
			for _, others := range []int{8, 9, 59, 60} {
				wantNoDeriv(t, fmt.Sprint(others, " of ", how), around(leaf, others, by))
			}
		}
	}
}

func TestDerivOfWhatHasNoEnd(t *testing.T) {
	for _, many := range []int{1, 2, 8, 30} {
		for _, kind := range []int{impl.RexCat, impl.RexOr, impl.RexAnd} {
			wantNoDeriv(t, "a ring of pairs", ring(many, kind, 2))
		}
		wantNoDeriv(t, "a ring", ring(many, impl.RexStar, 1))
		wantNoDeriv(t, "a ring of nots", notRex(ring(many, impl.RexNot, 1)))
	}
	wantNoDeriv(t, "too deep", around(emptyRex(), 200000, func(_ int, r impl.Rex) impl.Rex { return starRex(r) }))
	wantNoDeriv(t, "too broad", around(emptyRex(), 200, func(_ int, r impl.Rex) impl.Rex { return catRex(r, r) }))
	wantNoDeriv(t, "too many kids", impl.Rex{Kind: impl.RexOr, Kids: make([]impl.Rex, 200000)})
}

// A list that lies in two places, or in another one, is each time what it holds there.
func TestDerivOfListsThatShare(t *testing.T) {
	kids := []impl.Rex{byteRex('a'), byteRex('b'), starRex(byteRex('a'))}
	head, tail := impl.Rex{Kind: impl.RexCat, Kids: kids[:2]}, impl.Rex{Kind: impl.RexCat, Kids: kids[1:]}
	short := impl.Rex{Kind: impl.RexStar, Kids: kids[:1]}
	for _, r := range []impl.Rex{catRex(head, head), orRex(head, tail), andRex(head, tail), catRex(starRex(head), tail), catRex(short, head), orRex(short, starRex(head)), andRex(starRex(orRex(short, head)), notRex(tail))} {
		for _, text := range textsOf("ab", 3) {
			wantBehind(t, r, text)
		}
		wantAll(t, r)
	}
}

func TestDerivOfEmptyAndNilLists(t *testing.T) {
	for _, set := range [][]impl.Span{nil, {}, make([]impl.Span, 0, 4)} {
		nothing := impl.Rex{Kind: impl.RexSet, Set: set, Kids: []impl.Rex{}}
		empty := impl.Rex{Kind: impl.RexEmpty, Set: set, Kids: make([]impl.Rex, 0, 2)}
		all := impl.Rex{Kind: impl.RexNot, Set: set, Kids: []impl.Rex{nothing}}
		a := impl.Rex{Kind: impl.RexSet, Set: []impl.Span{{Lo: 97, Hi: 97}}, Kids: []impl.Rex{}}
		for _, r := range []impl.Rex{nothing, empty, all, a, catRex(a, all), orRex(catRex(a, nothing), empty), starRex(orRex(a, empty)), andRex(all, starRex(a))} {
			for _, b := range []int{0, 97, 255} {
				wantBy(t, r, b)
			}
			wantBehind(t, r, "")
			wantAll(t, r)
			if parts := impl.DerivParts(r); len(parts) == 0 {
				t.Errorf("%q has no parts", plainText(r))
			}
		}
	}
}

// derivCalls is each function; what tells several is taken for the kids of one.
func derivCalls() map[string]func(r impl.Rex) impl.Rex {
	return map[string]func(r impl.Rex) impl.Rex{
		"DerivBy a":       func(r impl.Rex) impl.Rex { return impl.DerivBy(r, 'a') },
		"DerivBy 255":     func(r impl.Rex) impl.Rex { return impl.DerivBy(r, 255) },
		"DerivBy no byte": func(r impl.Rex) impl.Rex { return impl.DerivBy(r, 256) },
		"DerivText":       func(r impl.Rex) impl.Rex { return impl.DerivText(r, "ab") },
		"DerivText empty": func(r impl.Rex) impl.Rex { return impl.DerivText(r, "") },
		"DerivAll": func(r impl.Rex) impl.Rex {
			list, _ := impl.DerivAll(r, 12)
			return impl.Rex{Kids: list}
		},
		"DerivParts": func(r impl.Rex) impl.Rex {
			var kids []impl.Rex
			for _, part := range impl.DerivParts(r) {
				kids = append(kids, impl.Rex{Set: part})
			}
			return impl.Rex{Kids: kids}
		},
	}
}

// derivMemory is some of which what is left is a part, or has one in two places.
func derivMemory() []impl.Rex {
	ab := setRex(impl.Span{Lo: 97, Hi: 98}, impl.Span{Lo: 120, Hi: 120})
	cat := catRex(ab, starRex(ab))
	list := append(memoryRexes(), letterRexes(60)...)
	for _, r := range []impl.Rex{ab, cat, starRex(cat), notRex(cat), orRex(cat, starRex(ab)), andRex(cat, notRex(ab)), catRex(starRex(ab), cat), catRex(starRex(ab), starRex(ab)), allRex(), setRex(), emptyRex()} {
		list = append(list, r, notRex(notRex(r)), starRex(starRex(r)), catRex(r, r), orRex(r, catRex(ab, r)))
	}
	return list
}

func TestDerivChangesNoArgument(t *testing.T) {
	for name, call := range derivCalls() {
		for _, r := range derivMemory() {
			given := roomyRex(r)
			before := wholeRex(given)
			got := call(given)
			if !plainSame(wholeRex(given), before) {
				t.Fatalf("%s: %v is changed", name, r)
			}
			if !plainSame(got, call(r)) {
				t.Fatalf("%s: %v: what lies behind the ends of lists counts", name, r)
			}
		}
	}
}

func TestDerivAnswersAreNewMemory(t *testing.T) {
	for name, call := range derivCalls() {
		for _, r := range derivMemory() {
			given := roomyRex(r)
			before := wholeRex(given)
			got, other := call(given), call(given)
			want := copyRex(other)
			sets, kids := listsOf(got)
			if !scribbleOver(sets, kids) {
				t.Fatalf("%s: %v: two lists of the answer share memory", name, r)
			}
			if !plainSame(wholeRex(given), before) {
				t.Fatalf("%s: %v: the answer shares memory with the argument", name, r)
			}
			if !plainSame(other, want) || !plainSame(call(given), want) {
				t.Fatalf("%s: %v: two answers share memory", name, r)
			}
		}
	}
}

// One list that lies in two places of what is given is two in the answer.
func TestDerivOfOneListTwice(t *testing.T) {
	a := starRex(setRex(impl.Span{Lo: 97, Hi: 98}))
	one := catRex(a, catRex(a, byteRex(99)))
	for name, call := range derivCalls() {
		for _, r := range []impl.Rex{a, one, catRex(a, a), catRex(one, one), orRex(one, catRex(a, one)), andRex(one, starRex(one)), catRex(a, catRex(one, a)), starRex(orRex(one, a))} {
			before := copyRex(r)
			sets, kids := listsOf(call(r))
			if !scribbleOver(sets, kids) {
				t.Fatalf("%s: %v: two lists of the answer share memory", name, before)
			}
			if !plainSame(r, before) {
				t.Fatalf("%s: %v: the answer shares memory with the argument", name, before)
			}
		}
	}
}

func TestDerivPartsLeaveNothingBehindTheEnd(t *testing.T) {
	for _, r := range derivMemory() {
		parts := impl.DerivParts(r)
		for _, list := range parts[len(parts):cap(parts)] {
			if cap(list) != 0 {
				t.Fatalf("%v: there is a list behind the end of the answer", r)
			}
		}
	}
}

// No call hangs on those ahead of it, nor on those beside it.
func TestDerivKeepsNothing(t *testing.T) {
	list := letterRexes(200)
	answer := func(r impl.Rex) impl.Rex {
		all, _ := impl.DerivAll(r, 9)
		return impl.Rex{Kids: append(all, impl.DerivBy(r, 'a'), impl.DerivText(r, "abb"))}
	}
	first := make([]impl.Rex, len(list))
	for i, r := range list {
		first[i] = answer(r)
	}
	for worker := range 4 {
		t.Run(fmt.Sprint("worker ", worker), func(t *testing.T) {
			t.Parallel()
			for i := len(list) - 1; i >= 0; i-- {
				impl.DerivText(list[(i+worker)%len(list)], "ba")
				if got := answer(list[i]); !plainSame(got, first[i]) {
					t.Fatalf("%q: another answer than the first time", plainText(list[i]))
				}
			}
		})
	}
}
