package tests

import (
	"fmt"
	"slices"
	"strings"
	"testing"

	"loop.example/carding/impl"
)

// allRex is like each text.
func allRex() impl.Rex { return notRex(setRex()) }

func plainNothing(r impl.Rex) bool { return r.Kind == impl.RexSet && len(r.Set) == 0 }
func plainAll(r impl.Rex) bool     { return r.Kind == impl.RexNot && plainNothing(r.Kids[0]) }

// plainCat puts together the leaves of the first, from the last on, rather than cats.
func plainCat(a, b impl.Rex) impl.Rex {
	switch {
	case plainNothing(a) || plainNothing(b):
		return setRex()
	case a.Kind == impl.RexEmpty:
		return b
	case b.Kind == impl.RexEmpty:
		return a
	}
	leaves := plainJoined(impl.RexCat, a)
	for _, leaf := range slices.Backward(leaves) {
		switch {
		case plainNothing(leaf):
			return setRex()
		case leaf.Kind != impl.RexEmpty:
			b = catRex(leaf, b)
		}
	}
	return b
}

// plainJoined is all that it joins by that Kind.
func plainJoined(kind int, r impl.Rex) []impl.Rex {
	if r.Kind != kind {
		return []impl.Rex{r}
	}
	return append(plainJoined(kind, r.Kids[0]), plainJoined(kind, r.Kids[1])...)
}

// plainBag makes of the sets one that has each byte that one of them has, or all of them have.
func plainBag(kind int, a, b impl.Rex) []impl.Rex {
	byText := map[string]impl.Rex{}
	var counts [256]int
	sets := 0
	for _, part := range append(plainJoined(kind, a), plainJoined(kind, b)...) {
		if part.Kind != impl.RexSet {
			byText[plainText(part)] = part
			continue
		}
		sets++
		for b, in := range flagsOf(part.Set) {
			if in {
				counts[b]++
			}
		}
	}
	enough := 1
	if kind == impl.RexAnd {
		enough = sets
	}
	one := setRex(flagsBy(func(b int) bool { return counts[b] >= enough }).spans()...)
	if sets > 0 && !(plainNothing(one) && kind == impl.RexOr && len(byText) > 0) {
		byText[plainText(one)] = one
	}
	var texts []string
	for text := range byText {
		texts = append(texts, text)
	}
	slices.Sort(texts)
	var out []impl.Rex
	for _, text := range texts {
		out = append(out, byText[text])
	}
	return out
}

func plainChain(kind int, list []impl.Rex) impl.Rex {
	if len(list) == 1 {
		return list[0]
	}
	return impl.Rex{Kind: kind, Kids: []impl.Rex{list[0], plainChain(kind, list[1:])}}
}

func plainOr(a, b impl.Rex) impl.Rex {
	list := plainBag(impl.RexOr, a, b)
	if place := slices.IndexFunc(list, plainAll); place >= 0 {
		return list[place]
	}
	return plainChain(impl.RexOr, list)
}

func plainAnd(a, b impl.Rex) impl.Rex {
	list := plainBag(impl.RexAnd, a, b)
	if slices.ContainsFunc(list, plainNothing) {
		return setRex()
	}
	if rest := slices.DeleteFunc(slices.Clone(list), plainAll); len(rest) > 0 {
		return plainChain(impl.RexAnd, rest)
	}
	return list[0]
}

func plainStar(r impl.Rex) impl.Rex {
	switch {
	case r.Kind == impl.RexStar:
		return r
	case r.Kind == impl.RexEmpty || plainNothing(r):
		return emptyRex()
	}
	return starRex(r)
}

func plainNot(r impl.Rex) impl.Rex {
	if r.Kind == impl.RexNot {
		return r.Kids[0]
	}
	return notRex(r)
}

// normWay is one of the five, by its name: the kind itself, what the program makes of it, and what the words say.
type normWay struct {
	kind impl.Rex
	got  impl.Rex
	want impl.Rex
}

func twoWays(a, b impl.Rex) map[string]normWay {
	return map[string]normWay{
		"NormCat": {catRex(a, b), impl.NormCat(a, b), plainCat(a, b)},
		"NormOr":  {orRex(a, b), impl.NormOr(a, b), plainOr(a, b)},
		"NormAnd": {andRex(a, b), impl.NormAnd(a, b), plainAnd(a, b)},
	}
}

func oneWays(r impl.Rex) map[string]normWay {
	return map[string]normWay{
		"NormStar": {starRex(r), impl.NormStar(r), plainStar(r)},
		"NormNot":  {notRex(r), impl.NormNot(r), plainNot(r)},
	}
}

// plainNorm is of any size and depth.
func plainNorm(r impl.Rex) impl.Rex {
	var kids []impl.Rex
	for _, kid := range r.Kids {
		kids = append(kids, plainNorm(kid))
	}
	switch r.Kind {
	case impl.RexCat:
		return plainCat(kids[0], kids[1])
	case impl.RexOr:
		return plainOr(kids[0], kids[1])
	case impl.RexAnd:
		return plainAnd(kids[0], kids[1])
	case impl.RexStar:
		return plainStar(kids[0])
	case impl.RexNot:
		return plainNot(kids[0])
	}
	return r
}

// byTheFive is Norm put together of the program's own five, of any size.
func byTheFive(r impl.Rex) impl.Rex {
	var kids []impl.Rex
	for _, kid := range r.Kids {
		kids = append(kids, byTheFive(kid))
	}
	switch r.Kind {
	case impl.RexCat:
		return impl.NormCat(kids[0], kids[1])
	case impl.RexOr:
		return impl.NormOr(kids[0], kids[1])
	case impl.RexAnd:
		return impl.NormAnd(kids[0], kids[1])
	case impl.RexStar:
		return impl.NormStar(kids[0])
	case impl.RexNot:
		return impl.NormNot(kids[0])
	}
	return r
}

func plainDeep(r impl.Rex) int {
	deep := 0
	for _, kid := range r.Kids {
		deep = max(deep, 1+plainDeep(kid))
	}
	return deep
}

func wantWays(t *testing.T, ways map[string]normWay) {
	t.Helper()
	for name, way := range ways {
		if !plainSame(way.got, way.want) {
			t.Fatalf("%s, %q: %q, not %q", name, plainText(way.kind), plainText(way.got), plainText(way.want))
		}
	}
}

// wantLikeness asks whether the same of these texts are like both.
func wantLikeness(t *testing.T, what string, a, b impl.Rex, texts []string) {
	t.Helper()
	x, y := languageOf(a, texts), languageOf(b, texts)
	for _, text := range texts {
		if x.has(text) != y.has(text) {
			t.Fatalf("%s: %q is like %q: %t, and like %q: %t", what, text, plainText(a), x.has(text), plainText(b), y.has(text))
		}
		if impl.RexOk(a) && impl.MatchIs(a, text) != x.has(text) || impl.RexOk(b) && impl.MatchIs(b, text) != y.has(text) {
			t.Fatalf("%s: %q, and %q or %q", what, text, plainText(a), plainText(b))
		}
	}
}

// wantNormed asks everything of Norm of one that is ok.
func wantNormed(t *testing.T, r impl.Rex) impl.Rex {
	t.Helper()
	got, want := impl.Norm(r), plainNorm(r)
	if !plainSame(got, want) {
		t.Fatalf("Norm of %q: %q, not %q", plainText(r), plainText(got), plainText(want))
	}
	if five := byTheFive(r); !plainSame(five, got) {
		t.Fatalf("%q: by the five it is %q, by Norm %q", plainText(r), plainText(five), plainText(got))
	}
	if again := byTheFive(got); !plainSame(again, got) {
		t.Fatalf("Norm of %q: %q, and once more %q", plainText(r), plainText(got), plainText(again))
	}
	// What is made simpler can be deeper than what is ok.
	again, twice := impl.Norm(got), impl.Rex{}
	if impl.RexOk(got) {
		twice = got
	}
	if !plainSame(again, twice) {
		t.Fatalf("Norm of Norm of %q is %v", plainText(r), again)
	}
	return got
}

// wantNormText reads it, and asks for the text of what it comes to.
func wantNormText(t *testing.T, rex, want string) {
	t.Helper()
	r := readRex(t, rex)
	if text := impl.RexText(wantNormed(t, r)); text != want {
		t.Errorf("Norm of %q: %q, not %q", rex, text, want)
	}
	wantLikeness(t, rex, r, readRex(t, want), textsOf("abc", 3))
}

func TestNormOfEachKind(t *testing.T) {
	for rex, want := range map[string]string{
		"set 97":     "set 97",
		"set no":     "set no",
		"set 0-255":  "set 0-255",
		"empty":      "empty",
		"not set no": "not set no",

		"cat set 97 set 98":                                            "cat set 97 set 98",
		"cat set 98 set 97":                                            "cat set 98 set 97",
		"cat empty set 97":                                             "set 97",
		"cat set 97 empty":                                             "set 97",
		"cat empty empty":                                              "empty",
		"cat set no set 97":                                            "set no",
		"cat set 97 set no":                                            "set no",
		"cat empty set no":                                             "set no",
		"cat set no empty":                                             "set no",
		"cat set no not set no":                                        "set no",
		"cat not set no not set no":                                    "cat not set no not set no",
		"cat cat set 97 set 98 set 99":                                 "cat set 97 cat set 98 set 99",
		"cat set 97 cat set 98 set 99":                                 "cat set 97 cat set 98 set 99",
		"cat cat set 97 set 98 cat set 98 set 97":                      "cat set 97 cat set 98 cat set 98 set 97",
		"cat cat cat set 97 set 98 set 99 set 97":                      "cat set 97 cat set 98 cat set 99 set 97",
		"cat cat set 97 cat set 98 set 99 set 97":                      "cat set 97 cat set 98 cat set 99 set 97",
		"cat cat set 97 empty cat empty set 98":                        "cat set 97 set 98",
		"cat cat set 97 set 98 cat set no set 98":                      "set no",
		"cat cat set 97 and set 97 set 98 set 98":                      "set no",
		"star cat star set 97 star set 97":                             "star cat star set 97 star set 97",
		"cat star cat set 97 set 98 cat set 97 set 98":                 "cat star cat set 97 set 98 cat set 97 set 98",
		"cat or cat set 97 set 98 empty set 99":                        "cat or cat set 97 set 98 empty set 99",
		"cat cat or set 97 empty or set 98 empty set 99":               "cat or empty set 97 cat or empty set 98 set 99",
		"cat not not cat set 97 set 98 set 99":                         "cat set 97 cat set 98 set 99",
		"cat or set no cat set 97 set 98 set 99":                       "cat set 97 cat set 98 set 99",
		"or cat cat set 97 set 98 set 99 cat set 97 cat set 98 set 99": "cat set 97 cat set 98 set 99",

		"star set 97":                "star set 97",
		"star star set 97":           "star set 97",
		"star star star star set 97": "star set 97",
		"star empty":                 "empty",
		"star set no":                "empty",
		"star star empty":            "empty",
		"star star set no":           "empty",
		"star not set no":            "star not set no",
		"star not empty":             "star not empty",
		"star or empty set 97":       "star or empty set 97",
		"star cat empty star set 97": "star set 97",
		"star and set 97 set 98":     "empty",

		"not set 97":              "not set 97",
		"not not set 97":          "set 97",
		"not not not set 97":      "not set 97",
		"not not set no":          "set no",
		"not not not set no":      "not set no",
		"not empty":               "not empty",
		"not star star empty":     "not empty",
		"not and set 97 set 98":   "not set no",
		"not or set no set 0-9":   "not set 0-9",
		"not cat empty not empty": "empty",
	} {
		wantNormText(t, rex, want)
	}
}

// Of several, nothing is left out of an or and is all of an and; all is all of an or and is left out of an and.
func TestNormOfNothingAndAllAmongSeveral(t *testing.T) {
	for rex, want := range map[string]string{
		"or set no set no":                                 "set no",
		"or set no or set no set no":                       "set no",
		"or set no empty":                                  "empty",
		"or empty set no":                                  "empty",
		"or set no set 97":                                 "set 97",
		"or set 97 set no":                                 "set 97",
		"or set no star set 97":                            "star set 97",
		"or star set 97 or set no empty":                   "or empty star set 97",
		"or or set no star set 97 or set no set 98":        "or set 98 star set 97",
		"or set no not set no":                             "not set no",
		"or and set 97 set 98 empty":                       "empty",
		"or and set 97 set 98 and set 98 set 99":           "set no",
		"or not set no not set no":                         "not set no",
		"or set 97 not set no":                             "not set no",
		"or not set no set 97":                             "not set no",
		"or empty not set no":                              "not set no",
		"or cat set 97 set 98 or star set 97 not set no":   "not set no",
		"or not not set no empty":                          "empty",
		"or not and set 97 set 98 set 97":                  "not set no",
		"or not empty empty":                               "or empty not empty",
		"or set 0-255 empty":                               "or empty set 0-255",
		"and set no set no":                                "set no",
		"and set no empty":                                 "set no",
		"and empty set no":                                 "set no",
		"and set no not set no":                            "set no",
		"and not set no set no":                            "set no",
		"and star set 97 and set no empty":                 "set no",
		"and set 97 set 98":                                "set no",
		"and set 97 and empty set 98":                      "set no",
		"and and star set 97 set 97 and set 98 not set 97": "set no",
		"and cat set no set 97 empty":                      "set no",
		"and not set no not set no":                        "not set no",
		"and not set no and not set no not set no":         "not set no",
		"and not set no empty":                             "empty",
		"and empty not set no":                             "empty",
		"and not set no set 97":                            "set 97",
		"and star set 97 and not set no empty":             "and empty star set 97",
		"and not not set no empty":                         "set no",
		"and not and set 97 set 98 star set 97":            "star set 97",
		"and not empty empty":                              "and empty not empty",
		"and or set no not set no empty":                   "empty",
	} {
		wantNormText(t, rex, want)
	}
}

func TestNormJoinsAndMeetsSets(t *testing.T) {
	for rex, want := range map[string]string{
		"or set 98 set 97":                                         "set 97-98",
		"or set 97 set 97":                                         "set 97",
		"or set 97 set 99":                                         "set 97,99",
		"or set 0-97 set 98-255":                                   "set 0-255",
		"or set 97 or set 99 set 98":                               "set 97-99",
		"or or set 97 star set 97 or set 98 star set 97":           "or set 97-98 star set 97",
		"or set 98 or star star set 97 set 99":                     "or set 98-99 star set 97",
		"or or set 97 empty or set 98 or cat set 97 set 98 set 99": "or cat set 97 set 98 or empty set 97-99",
		"or cat empty set 97 set 98":                               "set 97-98",
		"or not not set 97 set 98":                                 "set 97-98",
		"or and set 97-98 set 98-99 set 100":                       "set 98,100",
		"and set 97-99 set 98-100":                                 "set 98-99",
		"and set 97-98 set 97-98":                                  "set 97-98",
		"and set 97,99 set 97-99":                                  "set 97,99",
		"and set 97-99 and star set 97 set 98-100":                 "and set 98-99 star set 97",
		"and and set 97-99 and set 98-100 set 99-101 empty":        "and empty set 99",
		"and or set 97 set 98 set 98-99":                           "set 98",
		"and not not set 97-98 set 98":                             "set 98",
	} {
		wantNormText(t, rex, want)
	}
}

// Texts are compared byte by byte: by words, then by spaces, commas, lines and digits, not by numbers.
func TestNormOrdersByTexts(t *testing.T) {
	inOrder := []string{
		"and empty star set 1",
		"and empty star set 97",
		"and set 97 star set 97",
		"cat empty empty",
		"cat set 1 empty",
		"cat set 1,3 empty",
		"cat set 1-2 empty",
		"cat set 10 empty",
		"cat set 2 empty",
		"cat set no empty",
		"cat star set 1 empty",
		"empty",
		"not and empty set 1",
		"not empty",
		"not not set 1",
		"not set 1",
		"not star empty",
		"set 1",
		"star and set 1 empty",
		"star empty",
		"star not empty",
		"star set 1",
		"star set 1,3",
		"star set 1,3,5",
		"star set 1,3-4",
		"star set 1-2",
		"star set 1-2,4",
		"star set 1-20",
		"star set 10",
		"star set 100",
		"star set 11",
		"star set 2",
		"star set 9",
		"star set 99",
		"star set no",
		"star star set 0",
	}
	if !slices.IsSorted(inOrder) {
		t.Fatal("they are not in order")
	}
	for i, x := range inOrder {
		for _, y := range inOrder[i:] {
			a, b := readRex(t, x), readRex(t, y)
			or := strings.Join([]string{"or", x, y}, " ")
			if x == y {
				or = x
			}
			if text := plainText(impl.NormOr(a, b)); text != or {
				t.Errorf("NormOr of %q and %q: %q", x, y, text)
			}
			if text := plainText(impl.NormOr(b, a)); text != or {
				t.Errorf("NormOr of %q and %q: %q", y, x, text)
			}
			wantWays(t, twoWays(a, b))
			wantWays(t, twoWays(b, a))
		}
	}
}

// Each order in which parts come, and each way in which they are joined, comes to one.
func TestNormOfBagsInEachOrder(t *testing.T) {
	parts := []impl.Rex{readRex(t, "star set 97"), readRex(t, "set 99"), readRex(t, "cat set 97 set 98"), readRex(t, "set 97-99"), readRex(t, "star set 97"), readRex(t, "not set 97")}
	wants := map[int]string{
		impl.RexOr:  "or cat set 97 set 98 or not set 97 or set 97-99 star set 97",
		impl.RexAnd: "and cat set 97 set 98 and not set 97 and set 99 star set 97",
	}
	var d dice = 21
	for kind, want := range wants {
		norm := map[int]func(a, b impl.Rex) impl.Rex{impl.RexOr: impl.NormOr, impl.RexAnd: impl.NormAnd}[kind]
		for range 1500 {
			kinds, normed := slices.Clone(parts), slices.Clone(parts)
			for len(kinds) > 2 {
				i := d.upTo(len(kinds))
				a, x := kinds[i], normed[i]
				kinds, normed = slices.Delete(kinds, i, i+1), slices.Delete(normed, i, i+1)
				j := d.upTo(len(kinds))
				kinds[j] = impl.Rex{Kind: kind, Kids: []impl.Rex{a, kinds[j]}}
				normed[j] = norm(x, normed[j])
			}
			for what, list := range map[string][]impl.Rex{"joined": kinds, "made simpler": normed} {
				for _, two := range [][2]impl.Rex{{list[0], list[1]}, {list[1], list[0]}} {
					if text := plainText(norm(two[0], two[1])); text != want {
						t.Fatalf("%s, %q and %q: %q", what, plainText(two[0]), plainText(two[1]), text)
					}
				}
			}
		}
	}
}

// Parts of another Kind are taken whole.
func TestNormBagEndsAtOtherKinds(t *testing.T) {
	for rex, want := range map[string]string{
		"or and empty set 97 and set 98 empty":               "or and empty set 97 and empty set 98",
		"and or empty set 97 or set 98 empty":                "and or empty set 97 or empty set 98",
		"or star or empty set 97 set 98":                     "or set 98 star or empty set 97",
		"and not and empty star set 97 set 98":               "and not and empty star set 97 set 98",
		"or cat or set 97 empty set 98 set 99":               "or cat or empty set 97 set 98 set 99",
		"or and empty or set 97 star set 98 or set 97 empty": "or and empty or set 97 star set 98 or empty set 97",
	} {
		wantNormText(t, rex, want)
	}
}

func TestNormTheFiveOfSmallOnes(t *testing.T) {
	var list []impl.Rex
	for many := 1; many <= 3; many++ {
		list = append(list, smallRexes(many)...)
	}
	for _, a := range list {
		for _, b := range list {
			wantWays(t, twoWays(a, b))
		}
	}
	for _, r := range append(list, append(smallRexes(4), smallRexes(5)...)...) {
		wantWays(t, oneWays(r))
	}
}

// What is given to the five need not be as simple as they make it.
func TestNormTheFiveOfSpreadOnes(t *testing.T) {
	var d dice = 23
	list := append(letterRexes(400), spreadRexes()[:400]...)
	for range 4000 {
		a, b := list[d.upTo(len(list))], list[d.upTo(len(list))]
		wantWays(t, twoWays(a, b))
		wantWays(t, oneWays(a))
		wantWays(t, twoWays(orRex(a, b), orRex(b, a)))
		wantWays(t, twoWays(andRex(a, b), andRex(allRex(), a)))
		wantWays(t, twoWays(catRex(catRex(a, emptyRex()), b), catRex(a, b)))
	}
}

func TestNormTheFiveMeanTheKinds(t *testing.T) {
	texts := textsOf("ab", 4)
	var d dice = 25
	list := append(letterRexes(200), smallRexes(3)...)
	for range 500 {
		a, b := list[d.upTo(len(list))], list[d.upTo(len(list))]
		for name, way := range twoWays(a, b) {
			wantLikeness(t, name, way.kind, way.got, texts)
		}
		for name, way := range oneWays(a) {
			wantLikeness(t, name, way.kind, way.got, texts)
		}
	}
}

func TestNormOfAllSmallOnes(t *testing.T) {
	texts := textsOf("ab", 3)
	for many := 1; many <= 5; many++ {
		for _, r := range smallRexes(many) {
			wantLikeness(t, "Norm", r, wantNormed(t, r), texts)
		}
	}
}

func TestNormOfSpreadOnes(t *testing.T) {
	for _, r := range spreadRexes() {
		wantNormed(t, r)
	}
	texts := textsOf("ab", 5)
	simpler, deeper := 0, 0
	for _, r := range letterRexes(1000) {
		got := wantNormed(t, r)
		wantLikeness(t, "Norm", r, got, texts)
		if plainMany(got) < plainMany(r) {
			simpler++
		}
		if plainDeep(got) > plainDeep(r) {
			deeper++
		}
	}
	if simpler < 300 || deeper < 15 {
		t.Errorf("only %d are simpler, %d deeper", simpler, deeper)
	}
}

// evenTree is all of one Kind, with that many leaves, which is a power of two.
func evenTree(kind, leaves int, leaf func(i int) impl.Rex) impl.Rex {
	if leaves == 1 {
		return leaf(0)
	}
	second := func(i int) impl.Rex { return leaf(leaves/2 + i) }
	return impl.Rex{Kind: kind, Kids: []impl.Rex{evenTree(kind, leaves/2, leaf), evenTree(kind, leaves/2, second)}}
}

// What is ok as to its depth may be a deep chain then, which is told but is not ok itself.
func TestNormOfWhatIsTooDeepThen(t *testing.T) {
	leaf := func(i int) impl.Rex { return starRex(byteRex(2 * i)) }
	for _, kind := range []int{impl.RexCat, impl.RexOr, impl.RexAnd} {
		r := evenTree(kind, 8, leaf)
		if !impl.RexOk(r) {
			t.Fatalf("%q is not ok", plainText(r))
		}
		got := wantNormed(t, r)
		if plainMany(got) != 23 || plainDeep(got) != 8 || impl.RexOk(got) {
			t.Errorf("%q", plainText(got))
		}
		if again := impl.Norm(got); !plainSame(again, impl.Rex{}) {
			t.Errorf("Norm of what is not ok: %q", plainText(again))
		}
	}
}

// wantNoTwo asks for nothing at all where one of two is none.
func wantNoTwo(t *testing.T, what string, a, b impl.Rex) {
	t.Helper()
	for name, got := range map[string]impl.Rex{"NormCat": impl.NormCat(a, b), "NormOr": impl.NormOr(a, b), "NormAnd": impl.NormAnd(a, b)} {
		if !plainSame(got, impl.Rex{}) {
			t.Errorf("%s: %s is of Kind %d", what, name, got.Kind)
		}
	}
}

// wantNoNorm asks for nothing at all of one that is none, by itself and beside others, also such as would settle the answer.
func wantNoNorm(t *testing.T, what string, r impl.Rex) {
	t.Helper()
	for name, got := range map[string]impl.Rex{"NormStar": impl.NormStar(r), "NormNot": impl.NormNot(r), "Norm": impl.Norm(r)} {
		if !plainSame(got, impl.Rex{}) {
			t.Errorf("%s: %s is of Kind %d", what, name, got.Kind)
		}
	}
	for _, other := range []impl.Rex{setRex(), emptyRex(), allRex(), byteRex(97), starRex(byteRex(97)), r} {
		wantNoTwo(t, what, r, other)
		wantNoTwo(t, what, other, r)
	}
}

func TestNormOfWrongParts(t *testing.T) {
	for what, part := range wrongParts() {
		wantNoNorm(t, what, part)
		for how, by := range wraps() {
			for _, others := range []int{1, 2, 7, 8, 59} {
				wantNoNorm(t, fmt.Sprint(what, " in ", others, " of ", how), around(part, others, by))
			}
		}
		for _, place := range []int{0, 7, 29} {
			r := fullTree(30, func(i int) impl.Rex {
				if i == place {
					return part
				}
				return byteRex(97)
			})
			wantNoNorm(t, fmt.Sprint(what, " as leaf ", place), r)
		}
	}
}

func TestNormTheFiveOf59AroundAndOneMore(t *testing.T) {
	for how, by := range wraps() {
		for _, leaf := range []impl.Rex{emptyRex(), setRex(), byteRex(97)} {
			for _, others := range []int{8, 9, 24, 30, 58, 59} {
				r := around(leaf, others, by)
				wantWays(t, oneWays(r))
				for _, other := range []impl.Rex{setRex(), emptyRex(), allRex(), byteRex(98), starRex(byteRex(98)), r} {
					wantWays(t, twoWays(r, other))
					wantWays(t, twoWays(other, r))
				}
			}
			for _, others := range []int{60, 61, 70, 200} {
				wantNoNorm(t, fmt.Sprint(others, " of ", how), around(leaf, others, by))
			}
		}
		whole, deep := around(byteRex(97), 59, by), around(byteRex(97), 58, by)
		wantNoNorm(t, "59 below an or, behind", orRex(emptyRex(), whole))
		wantNoNorm(t, "59 below a cat, ahead", catRex(whole, emptyRex()))
		wantWays(t, oneWays(orRex(emptyRex(), deep)))
		wantWays(t, oneWays(catRex(deep, whole.Kids[0])))
	}
}

// One list that lies at several depths is asked of at each of them, whichever is come to first.
func TestNormTheFiveOfOneListAtSeveralDepths(t *testing.T) {
	by := func(_ int, r impl.Rex) impl.Rex { return starRex(r) }
	list := around(byteRex(97), 30, by)
	for _, others := range []int{0, 1, 28, 29, 30, 31} {
		deep := around(list, others, by)
		for _, r := range []impl.Rex{catRex(list, deep), catRex(deep, list), orRex(list, deep), andRex(deep, list)} {
			if others+31 <= 59 {
				wantWays(t, oneWays(r))
				wantWays(t, twoWays(r, list))
			} else {
				wantNoNorm(t, fmt.Sprint(others+31, " around it"), r)
			}
		}
	}
}

func TestNormTheFiveOfManyParts(t *testing.T) {
	leaf := func(i int) impl.Rex { return starRex(byteRex(2 * (i % 128))) }
	for _, leaves := range []int{8, 9, 12, 24, 25, 61, 128, 1000} {
		r := fullTree(leaves, leaf)
		wantWays(t, oneWays(r))
		wantWays(t, twoWays(r, emptyRex()))
		wantWays(t, twoWays(starRex(r), r))
		wantWays(t, twoWays(r, notRex(r)))
	}
	// A chain that one of the five told may be of any depth, but not if it is given.
	low, high := emptyRex(), emptyRex()
	for i := range 30 {
		low, high = impl.NormOr(low, leaf(i)), impl.NormOr(leaf(30+i), high)
	}
	chain := impl.NormOr(low, high)
	if !plainSame(chain, plainOr(low, high)) || plainDeep(chain) != 61 {
		t.Fatalf("%d deep", plainDeep(chain))
	}
	wantNoNorm(t, "a chain that was told", chain)
	wantNoNorm(t, "its rest", chain.Kids[1])
	wantWays(t, twoWays(chain.Kids[1].Kids[1], leaf(70)))
}

// Of cats that lie in one another to any depth that can be given there is one, however deep it is then.
func TestNormCatOfManyCats(t *testing.T) {
	cats := evenTree(impl.RexCat, 256, byteRex)
	got := impl.NormCat(cats, byteRex(7))
	for i := range 256 {
		if got.Kind != impl.RexCat || !plainSame(got.Kids[0], byteRex(i)) {
			t.Fatalf("part %d: %q", i, plainText(got))
		}
		got = got.Kids[1]
	}
	if !plainSame(got, byteRex(7)) {
		t.Errorf("%q", plainText(got))
	}
	// With the empty text behind it it is left as it is.
	if got := impl.NormCat(cats, emptyRex()); !plainSame(got, cats) {
		t.Errorf("%q", plainText(got))
	}
}

func TestNormOf24PartsAnd7AroundAndOneMore(t *testing.T) {
	leaf := func(i int) impl.Rex { return byteRex(2 * i) }
	full := starRex(fullTree(12, leaf))
	wantNormed(t, full)
	for _, more := range []impl.Rex{starRex(full), notRex(full), catRex(full, emptyRex()), orRex(setRex(), full), andRex(allRex(), full), fullTree(13, leaf)} {
		if got := impl.Norm(more); !plainSame(got, impl.Rex{}) {
			t.Errorf("%d parts: %q", plainMany(more), plainText(got))
		}
		wantWays(t, oneWays(more))
	}
	for how, by := range wraps() {
		for _, leaf := range []impl.Rex{emptyRex(), setRex(), byteRex(97)} {
			wantNormed(t, around(leaf, 7, by))
			for _, others := range []int{8, 9, 20} {
				if got := impl.Norm(around(leaf, others, by)); !plainSame(got, impl.Rex{}) {
					t.Errorf("%d of %s: %q", others, how, plainText(got))
				}
			}
		}
	}
}

// Texts count whatever their size: of many parts, of many bytes, and deep.
func TestNormOrdersByLongTexts(t *testing.T) {
	star := func(_ int, r impl.Rex) impl.Rex { return notRex(starRex(r)) }
	broad := func(last int) impl.Rex {
		return starRex(fullTree(40, func(i int) impl.Rex {
			if i == 39 {
				return byteRex(last)
			}
			return setRex(flagsBy(func(b int) bool { return b%3 != 2 }).spans()...)
		}))
	}
	deep := func(last int) impl.Rex { return starRex(around(byteRex(last), 14, star)) }
	if len(plainText(broad(1))) < 20000 || plainDeep(deep(1)) != 29 {
		t.Fatal("they are neither long nor deep")
	}
	for _, of := range []func(last int) impl.Rex{broad, deep} {
		for _, lasts := range [][]int{{10, 2}, {97, 98}, {100, 99}, {1, 10}} {
			first, second := of(lasts[0]), of(lasts[1])
			for _, got := range []impl.Rex{impl.NormOr(first, second), impl.NormOr(second, first), impl.NormOr(orRex(second, first), first)} {
				if !plainSame(got, orRex(first, second)) {
					t.Errorf("%v: %.60q ..", lasts, plainText(got))
				}
			}
			for _, got := range []impl.Rex{impl.NormAnd(first, second), impl.NormAnd(second, first), impl.NormAnd(second, andRex(second, first))} {
				if !plainSame(got, andRex(first, second)) {
					t.Errorf("%v: %.60q ..", lasts, plainText(got))
				}
			}
			if !plainSame(impl.NormOr(first, copyRex(first)), first) || !plainSame(impl.NormAnd(copyRex(second), second), second) {
				t.Errorf("%v: the same one is there twice", lasts)
			}
		}
	}
}

func TestNormOfWhatHasNoEnd(t *testing.T) {
	for _, many := range []int{1, 2, 8, 30, 61} {
		for _, kind := range []int{impl.RexCat, impl.RexOr, impl.RexAnd} {
			wantNoNorm(t, "a ring of pairs", ring(many, kind, 2))
			wantNoNorm(t, "a ring of pairs below another one", orRex(emptyRex(), ring(many, kind, 2)))
		}
		wantNoNorm(t, "a ring", ring(many, impl.RexStar, 1))
		wantNoNorm(t, "a ring of nots", notRex(ring(many, impl.RexNot, 1)))
	}
	wantNoNorm(t, "too deep", around(emptyRex(), 200000, func(_ int, r impl.Rex) impl.Rex { return starRex(r) }))
	wantNoNorm(t, "too deep and broad", around(emptyRex(), 200, func(_ int, r impl.Rex) impl.Rex { return catRex(r, r) }))
	wantNoNorm(t, "too many kids", impl.Rex{Kind: impl.RexOr, Kids: make([]impl.Rex, 200000)})
}

// One list may lie in so many places that its parts can't be counted.
func TestNormOfListsThatLieInManyPlaces(t *testing.T) {
	pairs := func(kind int, leaf impl.Rex, others int) impl.Rex {
		return around(leaf, others, func(_ int, r impl.Rex) impl.Rex { return impl.Rex{Kind: kind, Kids: []impl.Rex{r, r}} })
	}
	broad := pairs(impl.RexCat, byteRex(97), 58)
	wantNoNorm(t, "one too deep behind", catRex(broad, around(emptyRex(), 60, func(_ int, r impl.Rex) impl.Rex { return starRex(r) })))
	wantNoNorm(t, "a wrong one behind", catRex(broad, impl.Rex{}))
	wantNoNorm(t, "a wrong set behind", orRex(broad, setRex(impl.Span{Lo: 2, Hi: 1})))
	for _, got := range []impl.Rex{impl.NormCat(setRex(), broad), impl.NormCat(broad, setRex()), impl.NormAnd(broad, setRex()), impl.NormAnd(setRex(), broad), impl.NormCat(pairs(impl.RexCat, setRex(), 59), byteRex(97))} {
		if !plainSame(got, setRex()) {
			t.Errorf("Kind %d, not nothing", got.Kind)
		}
	}
	for _, got := range []impl.Rex{impl.NormOr(broad, allRex()), impl.NormOr(allRex(), broad)} {
		if !plainSame(got, allRex()) {
			t.Errorf("Kind %d, not all", got.Kind)
		}
	}
	star := starRex(byteRex(98))
	if got := impl.NormOr(pairs(impl.RexOr, byteRex(97), 59), pairs(impl.RexOr, star, 58)); !plainSame(got, orRex(byteRex(97), star)) {
		t.Errorf("an or of one: Kind %d", got.Kind)
	}
	if got := impl.NormAnd(pairs(impl.RexAnd, byteRex(97), 59), pairs(impl.RexAnd, star, 58)); !plainSame(got, andRex(byteRex(97), star)) {
		t.Errorf("an and of one: Kind %d", got.Kind)
	}
}

// A list that lies in two lists that overlap is each time what it holds there.
func TestNormOfListsThatOverlap(t *testing.T) {
	kids := []impl.Rex{starRex(byteRex(97)), starRex(byteRex(98)), starRex(byteRex(99))}
	for _, kind := range []int{impl.RexOr, impl.RexAnd, impl.RexCat} {
		head, tail := impl.Rex{Kind: kind, Kids: kids[:2]}, impl.Rex{Kind: kind, Kids: kids[1:]}
		wantWays(t, twoWays(head, tail))
		wantWays(t, twoWays(tail, head))
		wantWays(t, twoWays(head, head))
		wantWays(t, twoWays(head, impl.Rex{Kind: impl.RexNot, Kids: kids[:1]}))
		wantWays(t, oneWays(impl.Rex{Kind: kind, Kids: []impl.Rex{head, tail}}))
		wantNoTwo(t, "a list cut short", head, impl.Rex{Kind: kind, Kids: kids[:1]})
		wantNoTwo(t, "a list that is too long", head, impl.Rex{Kind: kind, Kids: kids})
	}
	// What is found of the first kid alone says nothing of the second one.
	for _, second := range []impl.Rex{{}, around(emptyRex(), 59, func(_ int, r impl.Rex) impl.Rex { return starRex(r) })} {
		list := []impl.Rex{byteRex(97), second}
		short, long := impl.Rex{Kind: impl.RexStar, Kids: list[:1]}, impl.Rex{Kind: impl.RexCat, Kids: list}
		wantNoNorm(t, "the short list first", orRex(short, long))
		wantNoNorm(t, "the long list first", orRex(long, short))
	}
}

func TestNormOfEmptyAndNilLists(t *testing.T) {
	for _, set := range [][]impl.Span{nil, {}, make([]impl.Span, 0, 4)} {
		nothing := impl.Rex{Kind: impl.RexSet, Set: set, Kids: []impl.Rex{}}
		empty := impl.Rex{Kind: impl.RexEmpty, Set: set, Kids: make([]impl.Rex, 0, 2)}
		all := impl.Rex{Kind: impl.RexNot, Set: set, Kids: []impl.Rex{nothing}}
		for _, r := range []impl.Rex{nothing, empty, all, starRex(byteRex(97))} {
			wantWays(t, oneWays(r))
			for _, other := range []impl.Rex{nothing, empty, all, byteRex(97)} {
				wantWays(t, twoWays(r, other))
				wantWays(t, twoWays(other, r))
			}
		}
	}
}

// normCalls is each function, of as many of the two as it takes.
func normCalls() map[string]func(a, b impl.Rex) impl.Rex {
	return map[string]func(a, b impl.Rex) impl.Rex{
		"NormCat":  impl.NormCat,
		"NormOr":   impl.NormOr,
		"NormAnd":  impl.NormAnd,
		"NormStar": func(a, _ impl.Rex) impl.Rex { return impl.NormStar(a) },
		"NormNot":  func(a, _ impl.Rex) impl.Rex { return impl.NormNot(a) },
		"Norm":     func(a, _ impl.Rex) impl.Rex { return impl.Norm(a) },
	}
}

// normPairs is two at a time, among them such of which an answer is one as it is, or a part of it.
func normPairs() [][2]impl.Rex {
	list := memoryRexes()
	a := setRex(impl.Span{Lo: 97, Hi: 98}, impl.Span{Lo: 120, Hi: 120})
	cat := catRex(a, starRex(a))
	for _, r := range []impl.Rex{a, cat, starRex(cat), notRex(cat), orRex(cat, starRex(a)), andRex(cat, notRex(a)), allRex(), setRex(), emptyRex()} {
		list = append(list, r, notRex(notRex(r)), starRex(starRex(r)))
	}
	var out [][2]impl.Rex
	for i, r := range list {
		out = append(out, [2]impl.Rex{r, list[i*7%len(list)]}, [2]impl.Rex{r, r}, [2]impl.Rex{r, emptyRex()}, [2]impl.Rex{emptyRex(), r}, [2]impl.Rex{r, setRex()}, [2]impl.Rex{setRex(), r}, [2]impl.Rex{allRex(), r}, [2]impl.Rex{r, cat})
	}
	return out
}

func TestNormChangesNoArgument(t *testing.T) {
	for name, call := range normCalls() {
		for _, two := range normPairs() {
			a, b := roomyRex(two[0]), roomyRex(two[1])
			before, otherBefore := wholeRex(a), wholeRex(b)
			got := call(a, b)
			if !plainSame(wholeRex(a), before) || !plainSame(wholeRex(b), otherBefore) {
				t.Fatalf("%s: %v or %v is changed", name, two[0], two[1])
			}
			if !plainSame(got, call(two[0], two[1])) {
				t.Fatalf("%s: %v and %v: what lies behind the ends of lists counts", name, two[0], two[1])
			}
		}
	}
}

func TestNormAnswersAreNewMemory(t *testing.T) {
	for name, call := range normCalls() {
		for _, two := range normPairs() {
			a, b := roomyRex(two[0]), roomyRex(two[1])
			before, otherBefore := wholeRex(a), wholeRex(b)
			got, other := call(a, b), call(a, b)
			want := copyRex(other)
			sets, kids := listsOf(got)
			if !scribbleOver(sets, kids) {
				t.Fatalf("%s: %v and %v: two lists of the answer share memory", name, two[0], two[1])
			}
			if !plainSame(wholeRex(a), before) || !plainSame(wholeRex(b), otherBefore) {
				t.Fatalf("%s: %v and %v: the answer shares memory with an argument", name, two[0], two[1])
			}
			if !plainSame(other, want) || !plainSame(call(a, b), want) {
				t.Fatalf("%s: %v and %v: two answers share memory", name, two[0], two[1])
			}
		}
	}
}

// One that is given twice, or lies in two places of what is given, is two in the answer.
func TestNormOfOneListTwice(t *testing.T) {
	a := starRex(setRex(impl.Span{Lo: 97, Hi: 98}))
	one := catRex(a, catRex(a, byteRex(99)))
	for name, call := range normCalls() {
		for _, two := range [][2]impl.Rex{{a, a}, {one, one}, {one, a}, {a, one}, {catRex(one, a), one}, {orRex(one, a), andRex(one, a)}, {orRex(a, notRex(a)), orRex(starRex(notRex(a)), a)}} {
			before, otherBefore := copyRex(two[0]), copyRex(two[1])
			got := call(two[0], two[1])
			sets, kids := listsOf(got)
			if !scribbleOver(sets, kids) {
				t.Fatalf("%s: %v and %v: two lists of the answer share memory", name, before, otherBefore)
			}
			if !plainSame(two[0], before) || !plainSame(two[1], otherBefore) {
				t.Fatalf("%s: %v and %v: the answer shares memory with an argument", name, before, otherBefore)
			}
		}
	}
}

// No call hangs on those ahead of it, nor on those beside it.
func TestNormKeepsNothing(t *testing.T) {
	list := letterRexes(300)
	first := make([]impl.Rex, len(list))
	for i, r := range list {
		first[i] = impl.NormOr(impl.Norm(r), list[(i+1)%len(list)])
	}
	for worker := range 4 {
		t.Run(fmt.Sprint("worker ", worker), func(t *testing.T) {
			t.Parallel()
			for i := len(list) - 1; i >= 0; i-- {
				impl.NormAnd(list[i], list[(i+worker)%len(list)])
				if got := impl.NormOr(impl.Norm(list[i]), list[(i+1)%len(list)]); !plainSame(got, first[i]) {
					t.Fatalf("%q: another answer than the first time", plainText(list[i]))
				}
			}
		})
	}
}
