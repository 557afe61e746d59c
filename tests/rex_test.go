package tests

import (
	"fmt"
	"slices"
	"strings"
	"testing"

	"loop.example/carding/impl"
)

func setRex(spans ...impl.Span) impl.Rex { return impl.Rex{Kind: impl.RexSet, Set: spans} }
func emptyRex() impl.Rex                 { return impl.Rex{Kind: impl.RexEmpty} }
func catRex(a, b impl.Rex) impl.Rex      { return impl.Rex{Kind: impl.RexCat, Kids: []impl.Rex{a, b}} }
func orRex(a, b impl.Rex) impl.Rex       { return impl.Rex{Kind: impl.RexOr, Kids: []impl.Rex{a, b}} }
func andRex(a, b impl.Rex) impl.Rex      { return impl.Rex{Kind: impl.RexAnd, Kids: []impl.Rex{a, b}} }
func starRex(a impl.Rex) impl.Rex        { return impl.Rex{Kind: impl.RexStar, Kids: []impl.Rex{a}} }
func notRex(a impl.Rex) impl.Rex         { return impl.Rex{Kind: impl.RexNot, Kids: []impl.Rex{a}} }

// byteRex is the set of one byte.
func byteRex(b int) impl.Rex { return setRex(impl.Span{Lo: b, Hi: b}) }

// plainText writes one in the plainest way there is, without asking whether it is ok.
func plainText(r impl.Rex) string {
	text := []string{"?", "set", "empty", "cat", "or", "star", "and", "not"}[r.Kind]
	if r.Kind == impl.RexSet {
		text += " " + impl.SetText(r.Set)
	}
	for _, kid := range r.Kids {
		text += " " + plainText(kid)
	}
	return text
}

func plainMany(r impl.Rex) int {
	many := 1
	for _, kid := range r.Kids {
		many += plainMany(kid)
	}
	return many
}

func plainSets(r impl.Rex) [][]impl.Span {
	var out [][]impl.Span
	if r.Kind == impl.RexSet {
		out = append(out, r.Set)
	}
	for _, kid := range r.Kids {
		out = append(out, plainSets(kid)...)
	}
	return out
}

func plainSame(a, b impl.Rex) bool {
	return a.Kind == b.Kind && slices.Equal(a.Set, b.Set) && slices.EqualFunc(a.Kids, b.Kids, plainSame)
}

// likeEmpty asks of the empty text alone what the table of the kinds says of all texts.
func likeEmpty(r impl.Rex) bool {
	switch r.Kind {
	case impl.RexSet:
		return false
	case impl.RexCat, impl.RexAnd:
		return likeEmpty(r.Kids[0]) && likeEmpty(r.Kids[1])
	case impl.RexOr:
		return likeEmpty(r.Kids[0]) || likeEmpty(r.Kids[1])
	case impl.RexNot:
		return !likeEmpty(r.Kids[0])
	}
	return true
}

// copyRex is a copy that shares nothing.
func copyRex(r impl.Rex) impl.Rex {
	out := impl.Rex{Kind: r.Kind, Set: append([]impl.Span(nil), r.Set...)}
	for _, kid := range r.Kids {
		out.Kids = append(out.Kids, copyRex(kid))
	}
	return out
}

// smallRexes is each one of that many parts, of three leaves.
func smallRexes(many int) []impl.Rex {
	if many == 1 {
		return []impl.Rex{emptyRex(), setRex(), byteRex(97)}
	}
	var out []impl.Rex
	for _, kid := range smallRexes(many - 1) {
		out = append(out, starRex(kid), notRex(kid))
	}
	for first := 1; first < many-1; first++ {
		for _, a := range smallRexes(first) {
			for _, b := range smallRexes(many - 1 - first) {
				out = append(out, catRex(a, b), orRex(a, b), andRex(a, b))
			}
		}
	}
	return out
}

// dice throws the same each time.
type dice uint32

func (d *dice) upTo(n int) int {
	*d = *d*1664525 + 1013904223
	return int(uint32(*d) >> 8 % uint32(n))
}

// spreadRex is of at most that many parts and that deep.
func spreadRex(d *dice, sets []flags, many, deep int) impl.Rex {
	kind := 1 + d.upTo(7)
	switch {
	case many < 3 || deep == 1:
		kind = []int{impl.RexSet, impl.RexSet, impl.RexEmpty}[d.upTo(3)]
	case kind <= impl.RexEmpty && d.upTo(4) > 0:
		kind = impl.RexCat
	}
	r := impl.Rex{Kind: kind}
	switch kind {
	case impl.RexSet:
		r.Set = sets[d.upTo(len(sets))].spans()
	case impl.RexStar, impl.RexNot:
		r.Kids = []impl.Rex{spreadRex(d, sets, many-1, deep-1)}
	case impl.RexCat, impl.RexOr, impl.RexAnd:
		first := spreadRex(d, sets, 1+d.upTo(many-2), deep-1)
		r.Kids = []impl.Rex{first, spreadRex(d, sets, many-1-plainMany(first), deep-1)}
	}
	return r
}

// spreadRexes is small and great ones with sets of few and of many spans; the same ones each time.
func spreadRexes() []impl.Rex {
	var d dice = 1
	sets := spreadSets()
	var out []impl.Rex
	for range 3000 {
		out = append(out, spreadRex(&d, sets, impl.RexSize, impl.RexDeep))
	}
	return out
}

// fullTree has that many leaves, all of them as near to the top as can be.
func fullTree(leaves int, leaf func(i int) impl.Rex) impl.Rex {
	level := []impl.Rex{}
	for i := range leaves {
		level = append(level, leaf(i))
	}
	for turn := 0; len(level) > 1; turn++ {
		var next []impl.Rex
		for i := 0; i+1 < len(level); i += 2 {
			next = append(next, impl.Rex{Kind: []int{impl.RexCat, impl.RexOr, impl.RexAnd}[(turn+i/2)%3], Kids: []impl.Rex{level[i], level[i+1]}})
		}
		if len(level)%2 == 1 {
			next = append(next, level[len(level)-1])
		}
		level = next
	}
	return level[0]
}

// around puts others around it, one at a time, the next one by the turn.
func around(r impl.Rex, others int, by func(turn int, r impl.Rex) impl.Rex) impl.Rex {
	for turn := range others {
		r = by(turn, r)
	}
	return r
}

// wraps is each way in which one can be put around another one.
func wraps() map[string]func(turn int, r impl.Rex) impl.Rex {
	leaf := emptyRex()
	ways := []func(r impl.Rex) impl.Rex{
		starRex, notRex,
		func(r impl.Rex) impl.Rex { return catRex(r, leaf) }, func(r impl.Rex) impl.Rex { return catRex(leaf, r) },
		func(r impl.Rex) impl.Rex { return orRex(r, leaf) }, func(r impl.Rex) impl.Rex { return orRex(leaf, r) },
		func(r impl.Rex) impl.Rex { return andRex(r, leaf) }, func(r impl.Rex) impl.Rex { return andRex(leaf, r) },
	}
	names := []string{"star", "not", "cat, first", "cat, second", "or, first", "or, second", "and, first", "and, second"}
	out := map[string]func(int, impl.Rex) impl.Rex{
		"each in turn": func(turn int, r impl.Rex) impl.Rex { return ways[turn%len(ways)](r) },
	}
	for i, name := range names {
		out[name] = func(_ int, r impl.Rex) impl.Rex { return ways[i](r) }
	}
	return out
}

// wantOk asks everything of one that is ok, and reads it from its text.
func wantOk(t *testing.T, what string, r impl.Rex) {
	t.Helper()
	if !impl.RexOk(r) {
		t.Fatalf("%s: %v is not ok", what, r)
	}
	if many := impl.RexMany(r); many != plainMany(r) {
		t.Errorf("%s: %v: %d parts, not %d", what, r, many, plainMany(r))
	}
	if null := impl.RexNull(r); null != likeEmpty(r) {
		t.Errorf("%s: %v: null %t", what, r, null)
	}
	if sets := impl.RexSets(r); !slices.EqualFunc(sets, plainSets(r), slices.Equal[[]impl.Span]) {
		t.Errorf("%s: %v: sets %v", what, r, sets)
	}
	text := impl.RexText(r)
	if text != plainText(r) {
		t.Fatalf("%s: %v: %q, not %q", what, r, text, plainText(r))
	}
	if back, ok := impl.RexRead(text); ok != (len(text) <= 4000) || ok && !plainSame(back, r) || !ok && !plainSame(back, impl.Rex{}) {
		t.Fatalf("%s: %q is read as %v, %t", what, text, back, ok)
	}
	if !impl.RexSame(r, copyRex(r)) {
		t.Errorf("%s: %v is not the same as its copy", what, r)
	}
}

// wantNone asks for each fixed answer of one that is not ok.
func wantNone(t *testing.T, what string, r impl.Rex) {
	t.Helper()
	if impl.RexOk(r) {
		t.Errorf("%s: it is ok", what)
	}
	if many := impl.RexMany(r); many != 0 {
		t.Errorf("%s: %d parts", what, many)
	}
	if impl.RexNull(r) {
		t.Errorf("%s: the empty text is like it", what)
	}
	if sets := impl.RexSets(r); len(sets) != 0 {
		t.Errorf("%s: sets %v", what, sets)
	}
	if text := impl.RexText(r); text != "" {
		t.Errorf("%s: %q", what, text)
	}
}

// wantNotRead asks for nothing and false.
func wantNotRead(t *testing.T, text string) {
	t.Helper()
	if r, ok := impl.RexRead(text); ok || !plainSame(r, impl.Rex{}) {
		t.Errorf("%.80q (%d bytes) is read as %v, %t", text, len(text), r, ok)
	}
}

func TestRexOfSmallOnes(t *testing.T) {
	written := map[string]impl.Rex{}
	for many := 1; many <= 5; many++ {
		for _, r := range smallRexes(many) {
			wantOk(t, "small", r)
			text := impl.RexText(r)
			if other, had := written[text]; had {
				t.Fatalf("%q is the text of %v and of %v", text, r, other)
			}
			written[text] = r
		}
	}
	if len(written) < 1000 {
		t.Errorf("only %d", len(written))
	}
}

func TestRexOfSpreadOnes(t *testing.T) {
	kinds := [impl.RexNot + 1]int{}
	long, full := 0, 0
	for _, r := range spreadRexes() {
		wantOk(t, "spread", r)
		kinds[r.Kind]++
		if len(impl.RexText(r)) > 1000 {
			long++
		}
		if plainMany(r) > 20 {
			full++
		}
	}
	for kind, many := range kinds {
		if kind > 0 && many < 50 {
			t.Errorf("only %d of Kind %d", many, kind)
		}
	}
	if long < 100 || full < 100 {
		t.Errorf("only %d long ones, %d of many parts", long, full)
	}
}

func TestRexWords(t *testing.T) {
	a, b := byteRex(97), setRex(impl.Span{Lo: 98, Hi: 99}, impl.Span{Lo: 120, Hi: 120})
	for text, r := range map[string]impl.Rex{
		"set 97":                                 a,
		"set 98-99,120":                          b,
		"set no":                                 setRex(),
		"set 0-255":                              setRex(impl.Span{Lo: 0, Hi: 255}),
		"empty":                                  emptyRex(),
		"cat set 97 set 98-99,120":               catRex(a, b),
		"or set 97 set 98-99,120":                orRex(a, b),
		"star set 97":                            starRex(a),
		"and set 98-99,120 set 97":               andRex(b, a),
		"not set 97":                             notRex(a),
		"cat or set 97 empty set 98-99,120":      catRex(orRex(a, emptyRex()), b),
		"cat set 97 or empty set 98-99,120":      catRex(a, orRex(emptyRex(), b)),
		"and not star set 97 cat set no set 97":  andRex(notRex(starRex(a)), catRex(setRex(), a)),
		"or cat set 97 set no and empty set 0-9": orRex(catRex(a, setRex()), andRex(emptyRex(), setRex(impl.Span{Lo: 0, Hi: 9}))),
	} {
		wantOk(t, text, r)
		if x := impl.RexText(r); x != text {
			t.Errorf("%q, not %q", x, text)
		}
		if x, ok := impl.RexRead(text); !ok || !plainSame(x, r) {
			t.Errorf("%q is read as %v, %t", text, x, ok)
		}
	}
}

func TestRexNullOfEachKind(t *testing.T) {
	yes, no := emptyRex(), byteRex(97)
	for _, c := range []struct {
		r    impl.Rex
		null bool
	}{
		{setRex(), false}, {setRex(impl.Span{Lo: 0, Hi: 255}), false}, {yes, true}, {no, false},
		{catRex(yes, yes), true}, {catRex(yes, no), false}, {catRex(no, yes), false}, {catRex(no, no), false},
		{orRex(yes, yes), true}, {orRex(yes, no), true}, {orRex(no, yes), true}, {orRex(no, no), false},
		{andRex(yes, yes), true}, {andRex(yes, no), false}, {andRex(no, yes), false}, {andRex(no, no), false},
		{starRex(yes), true}, {starRex(no), true}, {starRex(setRex()), true},
		{notRex(yes), false}, {notRex(no), true}, {notRex(setRex()), true}, {notRex(notRex(yes)), true}, {notRex(notRex(no)), false},
	} {
		if null := impl.RexNull(c.r); null != c.null {
			t.Errorf("%s: %t", plainText(c.r), null)
		}
	}
}

// The set of no bytes is a set like any other one, whether its list is nil or empty.
func TestRexOfTheSetOfNothing(t *testing.T) {
	for what, set := range map[string][]impl.Span{"nil": nil, "empty": {}, "empty with room": make([]impl.Span, 0, 4)} {
		nothing := impl.Rex{Kind: impl.RexSet, Set: set, Kids: []impl.Rex{}}
		wantOk(t, what, nothing)
		wantOk(t, what, orRex(nothing, catRex(byteRex(97), nothing)))
		if x := impl.RexText(starRex(nothing)); x != "star set no" {
			t.Errorf("%s: %q", what, x)
		}
		if sets := impl.RexSets(catRex(nothing, byteRex(97))); len(sets) != 2 || len(sets[0]) != 0 || len(sets[1]) != 1 {
			t.Errorf("%s: sets %v", what, sets)
		}
		if !impl.RexSame(nothing, setRex()) || !impl.RexSame(setRex(), nothing) || impl.RexSame(nothing, emptyRex()) {
			t.Errorf("%s: it is not the set of no bytes, or is the empty text", what)
		}
	}
	wantOk(t, "lists that are empty", impl.Rex{Kind: impl.RexEmpty, Set: []impl.Span{}, Kids: []impl.Rex{}})
	wantOk(t, "a kid with such", starRex(impl.Rex{Kind: impl.RexEmpty, Set: make([]impl.Span, 0, 4), Kids: make([]impl.Rex, 0, 4)}))
}

func TestRexOf24PartsAndOneMore(t *testing.T) {
	leaf := func(i int) impl.Rex { return byteRex(2 * i) }
	even := starRex(fullTree(12, leaf))
	inside := fullTree(12, func(i int) impl.Rex {
		if i == 11 {
			return notRex(emptyRex())
		}
		return leaf(i)
	})
	for _, r := range []impl.Rex{even, inside} {
		if plainMany(r) != 24 {
			t.Fatalf("%d parts", plainMany(r))
		}
		wantOk(t, "24 parts", r)
		for _, more := range []impl.Rex{starRex(r), notRex(r), catRex(r, emptyRex()), orRex(emptyRex(), r), fullTree(13, leaf)} {
			wantNone(t, fmt.Sprint(plainMany(more), " parts"), more)
			wantNotRead(t, plainText(more))
		}
	}
	for leaves := 14; leaves <= 128; leaves++ {
		r := fullTree(leaves, leaf)
		wantNone(t, fmt.Sprint(leaves, " leaves"), r)
		wantNotRead(t, plainText(r))
	}
}

func TestRexOf7AroundAndOneMore(t *testing.T) {
	for what, by := range wraps() {
		for _, leaf := range []impl.Rex{emptyRex(), setRex(), byteRex(97)} {
			wantOk(t, what, around(leaf, 7, by))
			for _, others := range []int{8, 9, 11} {
				r := around(leaf, others, by)
				wantNone(t, fmt.Sprint(what, ", ", others, " around it"), r)
				wantNotRead(t, plainText(r))
			}
		}
	}
	one := around(emptyRex(), 7, func(_ int, r impl.Rex) impl.Rex { return starRex(r) })
	wantNone(t, "one too deep beside one that is not", orRex(emptyRex(), one))
	wantNone(t, "one too deep ahead of one that is not", orRex(one, emptyRex()))
}

// setOfText is a set whose text has that many bytes.
func setOfText(t *testing.T, size int) []impl.Span {
	for _, small := range [][]int{{}, {1}, {10}, {1, 10}} {
		var s []impl.Span
		for _, b := range small {
			s = append(s, impl.Span{Lo: b, Hi: b})
		}
		for b := 100; b < 256; b += 2 {
			s = append(s, impl.Span{Lo: b, Hi: b})
			if len(impl.SetText(s)) == size {
				return s
			}
		}
	}
	t.Fatalf("no set has a text of %d bytes", size)
	return nil
}

// rexOfText is ok, and its text has that many bytes.
func rexOfText(t *testing.T, size int) impl.Rex {
	longest := flagsBy(func(b int) bool { return b%3 != 2 }).spans()
	tree := func(last []impl.Span) impl.Rex {
		return fullTree(7, func(i int) impl.Rex {
			if i == 6 {
				return setRex(last...)
			}
			return setRex(longest...)
		})
	}
	rest := size - len(plainText(tree(nil))) + len("no")
	r := tree(setOfText(t, rest))
	if len(plainText(r)) != size {
		t.Fatalf("%d bytes, not %d", len(plainText(r)), size)
	}
	return r
}

func TestRexReadOf4000BytesAndOneMore(t *testing.T) {
	for size := 3990; size <= 4000; size++ {
		r := rexOfText(t, size)
		wantOk(t, fmt.Sprint(size, " bytes"), r)
		if _, ok := impl.RexRead(impl.RexText(r)); !ok {
			t.Errorf("%d bytes are not read", size)
		}
	}
	for size := 4001; size <= 4010; size++ {
		r := rexOfText(t, size)
		wantOk(t, fmt.Sprint(size, " bytes"), r)
		wantNotRead(t, impl.RexText(r))
	}
	longest := fullTree(12, func(int) impl.Rex { return setRex(flagsBy(func(b int) bool { return b%3 != 2 }).spans()...) })
	wantOk(t, "the longest text", longest)
	wantNotRead(t, impl.RexText(longest))
	for _, size := range []int{3999, 4000, 4001, 1000000} {
		wantNotRead(t, strings.Repeat(" ", size-len("empty"))+"empty")
		wantNotRead(t, "empty"+strings.Repeat(" ", size-len("empty")))
		wantNotRead(t, strings.Repeat("x", size))
		wantNotRead(t, strings.Repeat("not ", (size-len("empty"))/4)+"empty")
		wantNotRead(t, strings.Repeat("cat set 1 ", (size-len("empty"))/10)+"empty")
	}
}

// wrongParts is single parts that are none, each for another reason; whatever is around them is none either.
func wrongParts() map[string]impl.Rex {
	e, set := emptyRex(), []impl.Span{{Lo: 97, Hi: 97}}
	out := map[string]impl.Rex{"nothing": {}}
	for _, kind := range []int{-1, 0, 8, 9, 255, 256 + impl.RexStar, -impl.RexStar, 1 << 40, -1 << 63} {
		for kids := range 4 {
			list := slices.Repeat([]impl.Rex{e}, kids)
			out[fmt.Sprint("Kind ", kind, " of ", kids, " kids")] = impl.Rex{Kind: kind, Kids: list}
			out[fmt.Sprint("Kind ", kind, " of ", kids, " kids and a Set")] = impl.Rex{Kind: kind, Set: set, Kids: list}
		}
	}
	for kind, kids := range []int{0, 0, 0, 2, 2, 1, 2, 1} {
		if kind == 0 {
			continue
		}
		for many := range 5 {
			list := slices.Repeat([]impl.Rex{e}, many)
			if many != kids {
				out[fmt.Sprint("Kind ", kind, " of ", many, " kids")] = impl.Rex{Kind: kind, Kids: list}
			}
			if many != kids || kind != impl.RexSet {
				out[fmt.Sprint("Kind ", kind, " of ", many, " kids and a Set")] = impl.Rex{Kind: kind, Set: set, Kids: list}
			}
		}
	}
	for _, s := range wrongSets() {
		out[fmt.Sprint("set of ", s)] = setRex(s...)
		out[fmt.Sprint("empty beside ", s)] = impl.Rex{Kind: impl.RexEmpty, Set: s}
		out[fmt.Sprint("star beside ", s)] = impl.Rex{Kind: impl.RexStar, Set: s, Kids: []impl.Rex{e}}
	}
	return out
}

func TestRexOfWrongParts(t *testing.T) {
	for what, part := range wrongParts() {
		wantNone(t, what, part)
		if !impl.RexSame(part, copyRex(part)) {
			t.Errorf("%s: not the same as its copy", what)
		}
		for how, by := range wraps() {
			for _, others := range []int{1, 2, 7} {
				wantNone(t, fmt.Sprint(what, " in ", others, " of ", how), around(part, others, by))
			}
		}
		for place := range 11 {
			r := fullTree(11, func(i int) impl.Rex {
				if i == place {
					return part
				}
				return byteRex(97)
			})
			wantNone(t, fmt.Sprint(what, " as leaf ", place), r)
		}
	}
}

func TestRexReadOfWrongTexts(t *testing.T) {
	for _, text := range []string{
		"", " ", "  ", "\n", "\x00", "fly", "none", "no", "97", "?",
		"set", "set ", "set  97", " set 97", "set 97 ", "set 97\n", "set\t97", "set97", "set-97", "Set 97", "SET 97", "set 97 set 98", "set set",
		"set empty", "set 256", "set -1", "set 5-4", "set 5-5", "set 1,2", "set 1-3,3", "set 01", "set +1", "set 1,", "set ,1", "set 1, 3", "set 1 3",
		"set No", "set no,1", "set nono", "set none", "set 99999999999999999999", "set \xff", "set ١",
		"empty ", " empty", "empty empty", "empty set 97", "Empty", "emptyempty", "empt", "emptys", "empty\x00",
		"cat", "cat empty", "cat empty empty empty", "cat  empty empty", "cat empty  empty", "cat empty empty ", "catempty empty", "cat empty fly", "cat fly empty",
		"or", "or empty", "or empty empty empty", "or empty,empty", "or (empty) empty", "and", "and empty", "and empty empty empty", "and empty and empty",
		"star", "star ", "star star", "star empty empty", "star  empty", "star\nempty", "starempty", "not", "not not", "not empty empty", "nOt empty",
		"empty cat", "empty star", "set 97 star", "cat set 97", "cat set 97 star", "cat set 97 set", "or set 97 set 98 set 99", "star set", "not set 1,2",
		"1 97", "2", "3 2 2", "cat\x20\x20empty empty", "cat empty\u00a0empty", "empty\r",
	} {
		wantNotRead(t, text)
	}
}

// Each text of few words is read just if one that is ok is so written.
func TestRexReadOfAllFewWords(t *testing.T) {
	written := map[string]impl.Rex{}
	for many := 1; many <= 5; many++ {
		for _, r := range smallRexes(many) {
			written[plainText(r)] = r
		}
	}
	words := []string{"set", "empty", "cat", "or", "star", "and", "not", "no", "97", ""}
	texts := []string{""}
	for range 5 {
		var longer []string
		for _, text := range texts {
			for _, word := range words {
				longer = append(longer, strings.TrimPrefix(text+" "+word, " "))
			}
		}
		texts = append([]string{""}, longer...)
		for _, text := range texts {
			r, want := written[text]
			got, ok := impl.RexRead(text)
			if ok != want || !plainSame(got, r) {
				t.Fatalf("%q is read as %v, %t", text, got, ok)
			}
		}
	}
}

// What is read is written as it was, and every change of one byte is another one or none.
func TestRexReadOfChangedTexts(t *testing.T) {
	for i, r := range spreadRexes() {
		text := plainText(r)
		if i%50 != 0 || len(text) > 600 {
			continue
		}
		for at := range text {
			for _, change := range []string{"", " ", "0", "9", "-", ",", "a", "\n", text[at:at+1] + text[at:at+1], text[at:at+1] + " "} {
				other := text[:at] + change + text[at+1:]
				back, ok := impl.RexRead(other)
				if ok && impl.RexText(back) != other || !ok && !plainSame(back, impl.Rex{}) || ok && other != text && plainSame(back, r) {
					t.Fatalf("%q is read as %v, %t", other, back, ok)
				}
			}
		}
	}
}

func TestRexSameOfEachTwo(t *testing.T) {
	var list []impl.Rex
	for many := 1; many <= 3; many++ {
		list = append(list, smallRexes(many)...)
	}
	list = append(list, smallRexes(4)[:60]...)
	for _, r := range wrongParts() {
		list = append(list, r)
	}
	list = append(list, setRex(impl.Span{Lo: 97, Hi: 98}), setRex(impl.Span{Lo: 97, Hi: 97}, impl.Span{Lo: 99, Hi: 99}), starRex(starRex(impl.Rex{})), catRex(impl.Rex{}, emptyRex()), catRex(emptyRex(), impl.Rex{}))
	for _, a := range list {
		for _, b := range list {
			if impl.RexSame(a, copyRex(b)) != plainSame(a, b) {
				t.Errorf("%v and %v: %t", a, b, !plainSame(a, b))
			}
		}
	}
}

// changes calls with each way in which one part of it, and nothing else, is another one.
func changes(r impl.Rex, tell func(impl.Rex)) {
	tell(impl.Rex{Kind: r.Kind + 1, Set: r.Set, Kids: r.Kids})
	tell(impl.Rex{Kind: r.Kind, Set: append(slices.Clone(r.Set), impl.Span{Lo: 7, Hi: 7}), Kids: r.Kids})
	tell(impl.Rex{Kind: r.Kind, Set: r.Set, Kids: append(slices.Clone(r.Kids), emptyRex())})
	for i := range r.Set {
		set := slices.Clone(r.Set)
		set[i].Hi++
		tell(impl.Rex{Kind: r.Kind, Set: set, Kids: r.Kids})
	}
	for i := range r.Kids {
		tell(impl.Rex{Kind: r.Kind, Set: r.Set, Kids: slices.Delete(slices.Clone(r.Kids), i, i+1)})
		changes(r.Kids[i], func(kid impl.Rex) {
			kids := slices.Clone(r.Kids)
			kids[i] = kid
			tell(impl.Rex{Kind: r.Kind, Set: r.Set, Kids: kids})
		})
	}
}

func TestRexSameSeesEachChange(t *testing.T) {
	for i, r := range spreadRexes() {
		if i%20 != 0 {
			continue
		}
		changes(r, func(other impl.Rex) {
			if impl.RexSame(r, other) || impl.RexSame(other, r) {
				t.Fatalf("%v is the same as %v", r, other)
			}
		})
	}
}

// ring is one whose kids are itself, by way of that many others.
func ring(many int, kind int, kids int) impl.Rex {
	lists := make([][]impl.Rex, many)
	for i := range lists {
		lists[i] = make([]impl.Rex, kids)
	}
	for i := range lists {
		for j := range lists[i] {
			lists[i][j] = impl.Rex{Kind: kind, Kids: lists[(i+1)%many]}
		}
	}
	return lists[0][0]
}

func TestRexWithinItself(t *testing.T) {
	for _, many := range []int{1, 2, 3, 8, 30} {
		wantNone(t, fmt.Sprint("a ring of ", many), ring(many, impl.RexStar, 1))
		wantNone(t, fmt.Sprint("a ring of ", many, " pairs"), ring(many, impl.RexCat, 2))
		wantNone(t, fmt.Sprint("a ring below another one of ", many), orRex(emptyRex(), ring(many, impl.RexNot, 1)))
		for _, other := range []int{1, 2, 5} {
			if !impl.RexSame(ring(many, impl.RexStar, 1), ring(other, impl.RexStar, 1)) || !impl.RexSame(ring(many, impl.RexCat, 2), ring(other, impl.RexCat, 2)) {
				t.Errorf("rings of %d and %d are not the same", many, other)
			}
			if impl.RexSame(ring(many, impl.RexStar, 1), ring(other, impl.RexNot, 1)) || impl.RexSame(ring(many, impl.RexCat, 1), ring(other, impl.RexCat, 2)) {
				t.Errorf("rings of %d and %d of other kinds are the same", many, other)
			}
		}
	}
	long := ring(7, impl.RexStar, 1)
	long.Kids[0].Kids[0].Kids[0].Set = []impl.Span{{Lo: 1, Hi: 1}}
	if impl.RexSame(long, ring(7, impl.RexStar, 1)) || impl.RexSame(ring(1, impl.RexStar, 1), long) {
		t.Error("rings that differ in one Set are the same")
	}
}

// Lists of kids that lie in one another, or in two places, are each what they hold there, in whichever order they are met.
func TestRexSameOfListsThatShare(t *testing.T) {
	of := func(kids []impl.Rex) impl.Rex { return impl.Rex{Kind: impl.RexCat, Kids: kids} }
	twice := []impl.Rex{emptyRex()}
	a, same := catRex(of(twice), of(twice)), catRex(of([]impl.Rex{emptyRex()}), of([]impl.Rex{emptyRex()}))
	others := []impl.Rex{
		catRex(of([]impl.Rex{emptyRex()}), of([]impl.Rex{setRex()})),
		catRex(of([]impl.Rex{setRex()}), of([]impl.Rex{emptyRex()})),
	}
	for _, other := range others {
		if !impl.RexSame(a, same) || !impl.RexSame(same, a) || impl.RexSame(a, other) || impl.RexSame(other, a) {
			t.Errorf("a list in two places is taken for %v", other)
		}
	}
	one, two := []impl.Rex{emptyRex(), emptyRex()}, []impl.Rex{emptyRex(), setRex()}
	for _, c := range [][2]impl.Rex{
		{catRex(of(one[:1]), of(one)), catRex(of(two[:1]), of(two))},
		{catRex(of(one), of(one[:1])), catRex(of(two), of(two[:1]))},
		{catRex(of(one[:1]), of(one[1:])), catRex(of(two[:1]), of(two[1:]))},
		{catRex(of(one[1:]), of(one[:1])), catRex(of(two[1:]), of(two[:1]))},
	} {
		if impl.RexSame(c[0], c[1]) || impl.RexSame(c[1], c[0]) || !impl.RexSame(c[0], copyRex(c[0])) || !impl.RexSame(copyRex(c[1]), c[1]) {
			t.Errorf("%v and %v", c[0], c[1])
		}
	}
}

func TestRexOfAnyDepth(t *testing.T) {
	deep := func(leaf impl.Rex, others int) impl.Rex {
		return around(leaf, others, func(_ int, r impl.Rex) impl.Rex { return starRex(r) })
	}
	a, b := deep(emptyRex(), 200000), deep(emptyRex(), 200000)
	wantNone(t, "200000 around it", a)
	if !impl.RexSame(a, b) || impl.RexSame(a, deep(setRex(), 200000)) || impl.RexSame(a, a.Kids[0]) {
		t.Error("deep ones are not the same, or are the same as others")
	}
	// Both kids lie in one list with those of the next: few lists, but more parts than can be gone through.
	broad := func(leaf impl.Rex) impl.Rex {
		return around(leaf, 200, func(_ int, r impl.Rex) impl.Rex { return catRex(r, r) })
	}
	wantNone(t, "200 pairs around it", broad(emptyRex()))
	if !impl.RexSame(broad(emptyRex()), broad(emptyRex())) || impl.RexSame(broad(emptyRex()), broad(setRex())) {
		t.Error("broad ones are not the same, or are the same as others")
	}
	wide := impl.Rex{Kind: impl.RexCat, Kids: make([]impl.Rex, 200000)}
	wantNone(t, "200000 kids", wide)
	if !impl.RexSame(wide, copyRex(wide)) || impl.RexSame(wide, impl.Rex{Kind: impl.RexCat, Kids: wide.Kids[1:]}) {
		t.Error("wide ones are not the same, or are the same as others")
	}
}

var scribbleRex = impl.Rex{Kind: -77, Set: []impl.Span{scribble}, Kids: []impl.Rex{{Kind: -78}}}

// roomyRex is a copy all of whose lists have room behind their ends that is written full.
func roomyRex(r impl.Rex) impl.Rex {
	kids := make([]impl.Rex, len(r.Kids)+3)
	for i := range kids {
		kids[i] = copyRex(scribbleRex)
	}
	for i, kid := range r.Kids {
		kids[i] = roomyRex(kid)
	}
	return impl.Rex{Kind: r.Kind, Set: roomy(r.Set), Kids: kids[:len(r.Kids)]}
}

// wholeRex is a copy of it, with what lies behind the ends of its lists ahead of these.
func wholeRex(r impl.Rex) impl.Rex {
	out := impl.Rex{Kind: r.Kind, Set: slices.Clone(whole(r.Set))}
	for _, kid := range r.Kids[:cap(r.Kids)] {
		out.Kids = append(out.Kids, wholeRex(kid))
	}
	return out
}

// listsOf is all lists in it, spare room included.
func listsOf(r impl.Rex) (sets [][]impl.Span, kids [][]impl.Rex) {
	if cap(r.Set) > 0 {
		sets = append(sets, whole(r.Set))
	}
	if cap(r.Kids) > 0 {
		kids = append(kids, r.Kids[:cap(r.Kids)])
	}
	for _, kid := range r.Kids[:cap(r.Kids)] {
		s, k := listsOf(kid)
		sets, kids = append(sets, s...), append(kids, k...)
	}
	return sets, kids
}

// scribbleOver writes something of its own into each list in turn, and says whether each still has its own then.
func scribbleOver(sets [][]impl.Span, kids [][]impl.Rex) bool {
	for i, list := range sets {
		for j := range list {
			list[j] = impl.Span{Lo: -100 - i, Hi: -77}
		}
	}
	for i, list := range kids {
		for j := range list {
			list[j] = impl.Rex{Kind: -100 - i}
		}
	}
	for i, list := range sets {
		for _, p := range list {
			if p != (impl.Span{Lo: -100 - i, Hi: -77}) {
				return false
			}
		}
	}
	for i, list := range kids {
		for _, r := range list {
			if !plainSame(r, impl.Rex{Kind: -100 - i}) {
				return false
			}
		}
	}
	return true
}

// memoryRexes is some that are ok and some that are not.
func memoryRexes() []impl.Rex {
	var out []impl.Rex
	for i, r := range spreadRexes() {
		if i%15 == 0 {
			out = append(out, r)
		}
	}
	for _, r := range wrongParts() {
		out = append(out, r, catRex(byteRex(97), starRex(r)))
	}
	return append(out, smallRexes(3)...)
}

func TestRexChangesNoArgument(t *testing.T) {
	list := memoryRexes()
	for i, r := range list {
		given, other := roomyRex(r), roomyRex(list[i*7%len(list)])
		before, otherBefore := wholeRex(given), wholeRex(other)
		impl.RexOk(given)
		impl.RexMany(given)
		impl.RexNull(given)
		impl.RexSets(given)
		impl.RexText(given)
		impl.RexSame(given, other)
		impl.RexSame(given, roomyRex(r))
		if !plainSame(wholeRex(given), before) || !plainSame(wholeRex(other), otherBefore) {
			t.Fatalf("%v or %v is changed", r, list[i*7%len(list)])
		}
	}
}

func TestRexSetsAreNewMemory(t *testing.T) {
	for _, r := range memoryRexes() {
		given := roomyRex(r)
		before := wholeRex(given)
		sets := impl.RexSets(given)
		if len(sets) == 0 {
			continue
		}
		for _, list := range sets[len(sets):cap(sets)] {
			if cap(list) != 0 {
				t.Fatalf("%v: there is a list behind the end of the answer", r)
			}
		}
		lists := make([][]impl.Span, len(sets))
		for i, list := range sets {
			lists[i] = whole(list)
		}
		if !scribbleOver(lists, nil) {
			t.Fatalf("%v: two lists of the answer share memory", r)
		}
		if !plainSame(wholeRex(given), before) {
			t.Fatalf("%v: the answer shares memory with the argument", r)
		}
		if again := impl.RexSets(given); !slices.EqualFunc(again, plainSets(r), slices.Equal[[]impl.Span]) {
			t.Fatalf("%v: sets %v, the second time", r, again)
		}
	}
}

// One list that lies in two places of an argument is two lists of the answer.
func TestRexSetsOfOneListTwice(t *testing.T) {
	a := byteRex(97)
	sets := impl.RexSets(catRex(a, starRex(a)))
	if len(sets) != 2 {
		t.Fatalf("sets %v", sets)
	}
	sets[0][0] = scribble
	if a.Set[0].Lo != 97 || sets[1][0].Lo != 97 {
		t.Errorf("memory is shared: %v, %v", a, sets)
	}
}

func TestRexReadIsNewMemory(t *testing.T) {
	for _, r := range memoryRexes() {
		text := impl.RexText(r)
		first, ok := impl.RexRead(text)
		second, _ := impl.RexRead(text)
		if !ok {
			continue
		}
		sets, kids := listsOf(first)
		if !scribbleOver(sets, kids) {
			t.Fatalf("%q: two lists of the answer share memory", text)
		}
		third, _ := impl.RexRead(text)
		if !plainSame(second, r) || !plainSame(third, r) {
			t.Fatalf("%q: two answers share memory", text)
		}
	}
}
