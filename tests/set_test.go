package tests

import (
	"fmt"
	"math"
	"slices"
	"strings"
	"testing"

	"loop.example/carding/impl"
)

// flags is a set in the plainest way there is; what the program answers is held against it.
type flags [256]bool

var (
	allBytes = []impl.Span{{Lo: 0, Hi: 255}}
	noBytes  = []impl.Span{}
)

func flagsOf(s []impl.Span) flags {
	var f flags
	for b := range f {
		for _, p := range s {
			f[b] = f[b] || p.Lo <= b && b <= p.Hi
		}
	}
	return f
}

func (f flags) spans() []impl.Span {
	var out []impl.Span
	for b := range f {
		switch {
		case f[b] && b > 0 && f[b-1]:
			out[len(out)-1].Hi = b
		case f[b]:
			out = append(out, impl.Span{Lo: b, Hi: b})
		}
	}
	return out
}

func flagsBy(in func(b int) bool) flags {
	var f flags
	for b := range f {
		f[b] = in(b)
	}
	return f
}

// edgeSets is every set of the bytes next to both ends of all bytes.
func edgeSets() []flags {
	near := []int{0, 1, 2, 3, 252, 253, 254, 255}
	var out []flags
	for bits := range 1 << len(near) {
		var f flags
		for i, b := range near {
			f[b] = bits>>i&1 == 1
		}
		out = append(out, f)
	}
	return out
}

// spreadSets is sets of few and of many spans, of no bytes and of all of them; the same ones each time.
func spreadSets() []flags {
	out := []flags{{}, flagsBy(func(int) bool { return true })}
	seed := uint32(1)
	for i := range 60 {
		in := false
		out = append(out, flagsBy(func(int) bool {
			seed = seed*1664525 + 1013904223
			if seed>>16%uint32(1+i) == 0 {
				in = !in
			}
			return in
		}))
	}
	for bit := range 8 {
		out = append(out, flagsBy(func(b int) bool { return b>>bit&1 == 1 }))
	}
	return out
}

// wrongSets is spans that are not ok, each for another reason.
func wrongSets() [][]impl.Span {
	return [][]impl.Span{
		{{Lo: 5, Hi: 4}},
		{{Lo: -1, Hi: 3}},
		{{Lo: -3, Hi: -2}},
		{{Lo: 250, Hi: 256}},
		{{Lo: 256, Hi: 256}},
		{{Lo: 1, Hi: 2}, {Lo: 3, Hi: 4}},
		{{Lo: 0, Hi: 0}, {Lo: 1, Hi: 1}},
		{{Lo: 0, Hi: 254}, {Lo: 255, Hi: 255}},
		{{Lo: 1, Hi: 3}, {Lo: 3, Hi: 5}},
		{{Lo: 1, Hi: 9}, {Lo: 3, Hi: 5}},
		{{Lo: 7, Hi: 7}, {Lo: 7, Hi: 7}},
		{{Lo: 9, Hi: 9}, {Lo: 3, Hi: 3}},
		{{Lo: 9, Hi: 9}, {Lo: 12, Hi: 11}, {Lo: 20, Hi: 20}},
		{{Lo: 0, Hi: 255}, {Lo: 257, Hi: 257}},
		{{Lo: 0, Hi: math.MaxInt}},
		{{Lo: 3, Hi: math.MaxInt}, {Lo: 9, Hi: 9}},
		{{Lo: math.MinInt, Hi: math.MaxInt}},
		{{Lo: math.MaxInt, Hi: math.MinInt}},
	}
}

func TestSetOk(t *testing.T) {
	for _, s := range [][]impl.Span{
		nil, noBytes, allBytes,
		{{Lo: 0, Hi: 0}}, {{Lo: 255, Hi: 255}}, {{Lo: 0, Hi: 0}, {Lo: 255, Hi: 255}},
		{{Lo: 1, Hi: 2}, {Lo: 4, Hi: 4}}, {{Lo: 0, Hi: 253}, {Lo: 255, Hi: 255}},
	} {
		if !impl.SetOk(s) {
			t.Errorf("%v is not ok", s)
		}
	}
	for _, s := range wrongSets() {
		if impl.SetOk(s) {
			t.Errorf("%v is ok", s)
		}
	}
}

func TestSetSame(t *testing.T) {
	if !impl.SetSame(nil, noBytes) || !impl.SetSame(noBytes, nil) {
		t.Error("the nil list and the empty one are not the same")
	}
	lists := append(wrongSets(), noBytes, allBytes, []impl.Span{{Lo: 1, Hi: 4}},
		[]impl.Span{{Lo: 1, Hi: 5}}, []impl.Span{{Lo: 2, Hi: 4}}, []impl.Span{{Lo: 3, Hi: 3}, {Lo: 9, Hi: 9}},
		[]impl.Span{{Lo: 3, Hi: 3}})
	for i, a := range lists {
		for j, b := range lists {
			if impl.SetSame(a, slices.Clone(b)) != (i == j) {
				t.Errorf("%v and %v: %t", a, b, i != j)
			}
		}
	}
}

func TestSetAsksOfBytes(t *testing.T) {
	var lists [][]impl.Span
	for _, f := range append(edgeSets(), spreadSets()...) {
		lists = append(lists, f.spans())
	}
	for _, s := range append(lists, wrongSets()...) {
		f := flagsOf(s)
		size, first := 0, -1
		for b := range f {
			if impl.SetHas(s, b) != f[b] {
				t.Errorf("%v has %d: %t", s, b, !f[b])
			}
			if f[b] {
				size++
			}
			if f[b] && first < 0 {
				first = b
			}
		}
		if n := impl.SetSize(s); n != size {
			t.Errorf("%v: size %d, not %d", s, n, size)
		}
		if b := impl.SetFirst(s); b != first {
			t.Errorf("%v: first %d, not %d", s, b, first)
		}
	}
}

func TestSetHasNoOtherBytes(t *testing.T) {
	for _, s := range [][]impl.Span{noBytes, allBytes, {{Lo: 0, Hi: 0}, {Lo: 255, Hi: 255}}} {
		for _, b := range []int{-1, -255, -256, 256, 257, 511, 512, math.MinInt, math.MaxInt} {
			if impl.SetHas(s, b) {
				t.Errorf("%v has %d", s, b)
			}
		}
	}
}

// wantSet asks for the one way in which a set is written.
func wantSet(t *testing.T, what string, got []impl.Span, want flags) {
	t.Helper()
	if !impl.SetOk(got) || !slices.Equal(got, want.spans()) {
		t.Fatalf("%s: %v, not %v", what, got, want.spans())
	}
}

func checkAlgebra(t *testing.T, sets []flags) {
	for _, f := range sets {
		a := f.spans()
		wantSet(t, fmt.Sprint("not ", a), impl.SetNot(a), flagsBy(func(x int) bool { return !f[x] }))
		for _, g := range sets {
			b := g.spans()
			wantSet(t, fmt.Sprint(a, " join ", b), impl.SetJoin(a, b), flagsBy(func(x int) bool { return f[x] || g[x] }))
			wantSet(t, fmt.Sprint(a, " meet ", b), impl.SetMeet(a, b), flagsBy(func(x int) bool { return f[x] && g[x] }))
		}
	}
}

func TestSetAlgebraAtTheEdges(t *testing.T) { checkAlgebra(t, edgeSets()) }

func TestSetAlgebraOfSpreadSets(t *testing.T) { checkAlgebra(t, spreadSets()) }

func TestSetSpansThatTouchAreOne(t *testing.T) {
	for _, c := range []struct{ a, b, join string }{
		{"1-3", "4-6", "1-6"},
		{"4-6", "1-3", "1-6"},
		{"0", "1", "0-1"},
		{"254", "255", "254-255"},
		{"0-99,101-255", "100", "0-255"},
		{"0,2,4", "1,3", "0-4"},
		{"1-3", "5-6", "1-3,5-6"},
		{"63", "64", "63-64"},
		{"127", "128", "127-128"},
		{"191", "192", "191-192"},
	} {
		a, okA := impl.SetRead(c.a)
		b, okB := impl.SetRead(c.b)
		if x := impl.SetText(impl.SetJoin(a, b)); !okA || !okB || x != c.join {
			t.Errorf("%s and %s: %s, not %s", c.a, c.b, x, c.join)
		}
	}
}

func TestSetAlgebraOfWrongSpans(t *testing.T) {
	digits := []impl.Span{{Lo: 48, Hi: 57}}
	for _, w := range wrongSets() {
		for what, got := range map[string][]impl.Span{
			"join, first": impl.SetJoin(w, digits), "join, second": impl.SetJoin(digits, w), "join, both": impl.SetJoin(w, w),
			"meet, first": impl.SetMeet(w, allBytes), "meet, second": impl.SetMeet(allBytes, w), "meet, both": impl.SetMeet(w, w),
			"not": impl.SetNot(w),
		} {
			if len(got) != 0 {
				t.Errorf("%s of %v: %v", what, w, got)
			}
		}
	}
}

func TestSetText(t *testing.T) {
	for _, c := range []struct {
		s    []impl.Span
		text string
	}{
		{nil, "no"},
		{noBytes, "no"},
		{allBytes, "0-255"},
		{[]impl.Span{{Lo: 0, Hi: 0}, {Lo: 255, Hi: 255}}, "0,255"},
		{[]impl.Span{{Lo: 9, Hi: 10}, {Lo: 99, Hi: 100}}, "9-10,99-100"},
		{[]impl.Span{{Lo: 5, Hi: 4}}, "5-4"},
		{[]impl.Span{{Lo: 1, Hi: 1}, {Lo: 1, Hi: 1}}, "1,1"},
		{[]impl.Span{{Lo: -3, Hi: -3}, {Lo: -2, Hi: -1}, {Lo: 300, Hi: 301}}, "-3,-2--1,300-301"},
		{[]impl.Span{{Lo: math.MinInt64, Hi: math.MaxInt64}}, "-9223372036854775808-9223372036854775807"},
	} {
		if x := impl.SetText(c.s); x != c.text {
			t.Errorf("%v: %q, not %q", c.s, x, c.text)
		}
	}
}

func TestSetReadsWhatItWrites(t *testing.T) {
	written := map[string]flags{}
	for _, f := range append(edgeSets(), spreadSets()...) {
		s := f.spans()
		text := impl.SetText(s)
		if g, had := written[text]; had && g != f {
			t.Fatalf("%q is the text of two sets", text)
		}
		written[text] = f
		back, ok := impl.SetRead(text)
		if !ok || !slices.Equal(back, s) {
			t.Fatalf("%q: %v, %t", text, back, ok)
		}
	}
}

func TestSetReadOfWrongTexts(t *testing.T) {
	wrong := []string{
		"", " ", ",", "-", "a", "No", "no ", " no", "no,1", "1,no", "no,no", "nono", "none",
		"256", "1000", "-1", "-0", "-1-3", "5-4", "5-5", "1-", "-5-7", "1--2", "1-2-3", "250-256",
		"01", "00", "1-02", "+1", "1-+2", "1_0", "0x1", "1.0", "1e1", "٣", "\x00", "1\x00", "1\n", "1 ,3", "1, 3",
		"1,2", "0,1", "254,255", "0-254,255", "1-3,4", "1-3,3", "1-3,2", "1-9,3-5", "7,7", "9,3", "1,,3", ",1", "1,", "1;3",
		"99999999999999999999", "1-99999999999999999999", "18446744073709551616",
	}
	for _, w := range wrongSets() {
		wrong = append(wrong, impl.SetText(w))
	}
	for _, text := range wrong {
		if s, ok := impl.SetRead(text); ok || len(s) != 0 {
			t.Errorf("%q: %v, %t", text, s, ok)
		}
	}
}

// No text of a set is as long as is read; the longest one that there is is read, and none is at 1200 bytes or one more.
func TestSetReadOfLongTexts(t *testing.T) {
	longest := flagsBy(func(b int) bool { return b%3 != 2 }).spans()
	text := impl.SetText(longest)
	if s, ok := impl.SetRead(text); !ok || !slices.Equal(s, longest) || len(s) != 86 {
		t.Errorf("%q: %v, %t", text, s, ok)
	}
	for _, size := range []int{1199, 1200, 1201, 100000} {
		again := strings.Repeat(text+",", size)[:size-1] + "1"
		for _, long := range []string{again, strings.Repeat("0", size-1) + "7", strings.Repeat("7", size), strings.Repeat(" ", size-2) + "no"} {
			if s, ok := impl.SetRead(long); ok || len(s) != 0 || len(long) != size {
				t.Errorf("%d bytes: %v, %t", len(long), s, ok)
			}
		}
	}
}

// checkParts asks for the promise as it is said, of each two bytes, and not in the way in which parts are made.
func checkParts(t *testing.T, list [][]impl.Span) {
	t.Helper()
	parts := impl.SetParts(list)
	where := [256]int{}
	for b := range where {
		where[b] = -1
	}
	for i, p := range parts {
		if !impl.SetOk(p) || len(p) == 0 {
			t.Fatalf("%v: part %v", list, p)
		}
		if i > 0 && parts[i-1][0].Lo >= p[0].Lo {
			t.Fatalf("%v: %v is ahead of %v", list, parts[i-1], p)
		}
		for b, in := range flagsOf(p) {
			if in && where[b] >= 0 {
				t.Fatalf("%v: %d is in two parts", list, b)
			}
			if in {
				where[b] = i
			}
		}
	}
	given := make([]flags, len(list))
	for i, s := range list {
		given[i] = flagsOf(s)
	}
	for a := range where {
		if where[a] < 0 {
			t.Fatalf("%v: %d is in no part", list, a)
		}
		for b := range a {
			alike := true
			for _, f := range given {
				alike = alike && f[a] == f[b]
			}
			if alike != (where[a] == where[b]) {
				t.Fatalf("%v: %d and %d: one part %t", list, a, b, !alike)
			}
		}
	}
}

func TestSetPartsTellSetsApart(t *testing.T) {
	spread := spreadSets()
	for i := range spread {
		var list [][]impl.Span
		for _, f := range spread[i:min(i+i%7, len(spread))] {
			list = append(list, f.spans())
		}
		checkParts(t, list)
	}
	edge := edgeSets()
	for i := range edge {
		checkParts(t, [][]impl.Span{edge[i].spans(), edge[i*37%len(edge)].spans()})
	}
}

func wantParts(t *testing.T, list [][]impl.Span, want ...string) {
	t.Helper()
	var texts []string
	for _, p := range impl.SetParts(list) {
		texts = append(texts, impl.SetText(p))
	}
	if !slices.Equal(texts, want) {
		t.Errorf("%v: %q, not %q", list, texts, want)
	}
}

func TestSetPartsOfFewSets(t *testing.T) {
	letters := []impl.Span{{Lo: 97, Hi: 122}}
	wantParts(t, nil, "0-255")
	wantParts(t, [][]impl.Span{}, "0-255")
	wantParts(t, [][]impl.Span{nil}, "0-255")
	wantParts(t, [][]impl.Span{noBytes, allBytes}, "0-255")
	wantParts(t, [][]impl.Span{{{Lo: 0, Hi: 0}}}, "0", "1-255")
	wantParts(t, [][]impl.Span{{{Lo: 255, Hi: 255}}}, "0-254", "255")
	wantParts(t, [][]impl.Span{letters, letters}, "0-96,123-255", "97-122")
	wantParts(t, [][]impl.Span{letters, impl.SetNot(letters)}, "0-96,123-255", "97-122")
	wantParts(t, [][]impl.Span{letters, {{Lo: 120, Hi: 130}}, {{Lo: 1, Hi: 2}}}, "0,3-96,131-255", "1-2", "97-119", "120-122", "123-130")
	wantParts(t, [][]impl.Span{{{Lo: 200, Hi: 200}}, {{Lo: 100, Hi: 100}}, {{Lo: 0, Hi: 0}}}, "0", "1-99,101-199,201-255", "100", "200")
}

func TestSetPartsOfEachByte(t *testing.T) {
	var bits, each [][]impl.Span
	for bit := range 8 {
		bits = append(bits, flagsBy(func(b int) bool { return b>>bit&1 == 1 }).spans())
	}
	for b := 255; b >= 0; b-- {
		each = append(each, []impl.Span{{Lo: b, Hi: b}})
	}
	for _, list := range [][][]impl.Span{bits, each, append(slices.Clone(bits), each...)} {
		parts := impl.SetParts(list)
		if len(parts) != 256 {
			t.Fatalf("%d parts", len(parts))
		}
		for b, p := range parts {
			if !slices.Equal(p, []impl.Span{{Lo: b, Hi: b}}) {
				t.Errorf("part %d: %v", b, p)
			}
		}
	}
}

func TestSetPartsOfWrongSpans(t *testing.T) {
	digits := []impl.Span{{Lo: 48, Hi: 57}}
	for _, w := range wrongSets() {
		for _, list := range [][][]impl.Span{{w}, {w, digits}, {digits, w}, {digits, w, digits}} {
			if parts := impl.SetParts(list); len(parts) != 0 {
				t.Errorf("%v: %v", list, parts)
			}
		}
	}
}

var scribble = impl.Span{Lo: -77, Hi: -78}

// roomy is the list with room behind its end that is written full, so that a write there is seen.
func roomy(s []impl.Span) []impl.Span {
	out := make([]impl.Span, len(s), len(s)+8)
	copy(out, s)
	for i := len(out); i < cap(out); i++ {
		out[:cap(out)][i] = scribble
	}
	return out
}

func whole(s []impl.Span) []impl.Span { return s[:cap(s)] }

// checkMemory calls with roomy arguments, scribbles over these, and then over each list of the answer, spare room included: nothing else may change.
func checkMemory(t *testing.T, what string, args [][]impl.Span, call func(args [][]impl.Span) [][]impl.Span) {
	t.Helper()
	given := make([][]impl.Span, len(args))
	before := make([][]impl.Span, len(args))
	for i, s := range args {
		given[i] = roomy(s)
		before[i] = slices.Clone(whole(given[i]))
	}
	argsAsBefore := func(when string) {
		t.Helper()
		for i := range given {
			if !slices.Equal(whole(given[i]), before[i]) {
				t.Errorf("%s %v: argument %d is changed %s: %v", what, args, i, when, whole(given[i]))
			}
		}
	}
	out := call(given)
	argsAsBefore("by the call")
	first := make([][]impl.Span, len(out))
	for i, s := range out {
		first[i] = slices.Clone(s)
	}
	for i := range given {
		for j := range whole(given[i]) {
			whole(given[i])[j] = scribble
		}
	}
	for i, s := range out {
		if !slices.Equal(s, first[i]) {
			t.Errorf("%s %v: list %d of the answer shares memory with an argument", what, args, i)
		}
	}
	for i := range given {
		copy(whole(given[i]), before[i])
	}
	own := func(i int) impl.Span { return impl.Span{Lo: -100 - i, Hi: -77} }
	for i := range out {
		for j := range whole(out[i]) {
			whole(out[i])[j] = own(i)
		}
	}
	for i := range out {
		for _, p := range whole(out[i]) {
			if p != own(i) {
				t.Fatalf("%s %v: list %d of the answer shares memory with another one", what, args, i)
			}
		}
	}
	argsAsBefore("with the answer")
}

func one(s []impl.Span) [][]impl.Span { return [][]impl.Span{s} }

func TestSetMemory(t *testing.T) {
	lists := append(wrongSets(), noBytes, allBytes, []impl.Span{{Lo: 48, Hi: 57}}, []impl.Span{{Lo: 48, Hi: 57}, {Lo: 97, Hi: 122}},
		[]impl.Span{{Lo: 0, Hi: 0}, {Lo: 255, Hi: 255}}, flagsBy(func(b int) bool { return b%2 == 0 }).spans())
	for _, a := range lists {
		checkMemory(t, "not", one(a), func(x [][]impl.Span) [][]impl.Span { return one(impl.SetNot(x[0])) })
		checkMemory(t, "asks", one(a), func(x [][]impl.Span) [][]impl.Span {
			impl.SetOk(x[0])
			impl.SetHas(x[0], 50)
			impl.SetSize(x[0])
			impl.SetFirst(x[0])
			impl.SetText(x[0])
			return nil
		})
		for _, b := range lists {
			pair := [][]impl.Span{a, b}
			checkMemory(t, "same", pair, func(x [][]impl.Span) [][]impl.Span { impl.SetSame(x[0], x[1]); return nil })
			checkMemory(t, "join", pair, func(x [][]impl.Span) [][]impl.Span { return one(impl.SetJoin(x[0], x[1])) })
			checkMemory(t, "meet", pair, func(x [][]impl.Span) [][]impl.Span { return one(impl.SetMeet(x[0], x[1])) })
			checkMemory(t, "parts", pair, impl.SetParts)
		}
	}
}

// The outer list of parts is an argument too, and its room behind the end.
func TestSetPartsLeavesTheOuterList(t *testing.T) {
	digits, behind := []impl.Span{{Lo: 48, Hi: 57}}, []impl.Span{{Lo: 1, Hi: 1}}
	list := [][]impl.Span{digits, allBytes, behind, behind}[:2]
	parts := impl.SetParts(list)
	room := list[:4]
	if !slices.Equal(room[0], digits) || !slices.Equal(room[1], allBytes) || &room[2][0] != &behind[0] || &room[3][0] != &behind[0] {
		t.Errorf("the list is changed: %v", room)
	}
	for i := range parts[:cap(parts)] {
		parts[:cap(parts)][i] = []impl.Span{scribble}
	}
	if !slices.Equal(room[0], digits) || !slices.Equal(room[1], allBytes) || !slices.Equal(room[2], behind) {
		t.Errorf("the answer shares memory with the list: %v", room)
	}
}

// Nothing is kept between two calls: answers that were scribbled over come again as they were.
func TestSetAnswersAreNew(t *testing.T) {
	digits := []impl.Span{{Lo: 48, Hi: 57}}
	calls := map[string]func() []impl.Span{
		"not":   func() []impl.Span { return impl.SetNot(digits) },
		"join":  func() []impl.Span { return impl.SetJoin(digits, digits) },
		"meet":  func() []impl.Span { return impl.SetMeet(digits, allBytes) },
		"read":  func() []impl.Span { s, _ := impl.SetRead("48-57,97"); return s },
		"parts": func() []impl.Span { return impl.SetParts([][]impl.Span{digits})[0] },
	}
	for what, call := range calls {
		s := call()
		first := slices.Clone(s)
		for i := range whole(s) {
			whole(s)[i] = scribble
		}
		if again := call(); !slices.Equal(again, first) {
			t.Errorf("%s: %v, then %v", what, first, again)
		}
	}
}
