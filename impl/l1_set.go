package impl

import (
	"cmp"
	"iter"
	"math/bits"
	"slices"
	"strconv"
	"strings"
)

// Span is bytes from one to another one.
type Span struct {
	Lo int
	Hi int
}

// The greatest byte, and how long the text of a set is at most.
const (
	byteTop    = 255
	setTextMax = 1200
)

// byteBits is a set with a bit for each byte, so that == holds whole sets against each other.
type byteBits [4]uint64

// bitsOf leaves out what is no byte, as spans may come in that are no set.
func bitsOf(s []Span) byteBits {
	var out byteBits
	for _, p := range s {
		for b := max(p.Lo, 0); b <= min(p.Hi, byteTop); b++ {
			out[b/64] |= 1 << (b % 64)
		}
	}
	return out
}

func (x byteBits) has(b int) bool {
	return x[b/64]>>(b%64)&1 == 1
}

func (x byteBits) join(y byteBits) byteBits {
	for i := range x {
		x[i] |= y[i]
	}
	return x
}

func (x byteBits) meet(y byteBits) byteBits {
	for i := range x {
		x[i] &= y[i]
	}
	return x
}

func (x byteBits) others() byteBits {
	for i := range x {
		x[i] = ^x[i]
	}
	return x
}

func (x byteBits) size() int {
	n := 0
	for _, word := range x {
		n += bits.OnesCount64(word)
	}
	return n
}

func (x byteBits) first() int {
	for i, word := range x {
		if word != 0 {
			return i*64 + bits.TrailingZeros64(word)
		}
	}
	return -1
}

// spans yields each run of bytes whole, so that what is collected is always ok.
func (x byteBits) spans() iter.Seq[Span] {
	return func(yield func(Span) bool) {
		for lo := 0; lo <= byteTop; lo++ {
			if !x.has(lo) {
				continue
			}
			hi := lo
			for hi < byteTop && x.has(hi+1) {
				hi++
			}
			if !yield(Span{Lo: lo, Hi: hi}) {
				return
			}
			lo = hi
		}
	}
}

func (x byteBits) list() []Span {
	var out []Span
	for p := range x.spans() {
		out = append(out, p)
	}
	return out
}

// SetOk says whether spans are a set.
func SetOk(s []Span) bool {
	least := 0
	for _, p := range s {
		if p.Lo < least || p.Hi < p.Lo || p.Hi > byteTop {
			return false
		}
		// A span that begins right behind this one would be one with it.
		least = p.Hi + 2
	}
	return true
}

// SetSame says whether two sets are one.
func SetSame(a []Span, b []Span) bool {
	return slices.Equal(a, b)
}

// SetHas says whether a byte is in a set.
func SetHas(s []Span, b int) bool {
	for _, p := range s {
		if p.Lo <= b && b <= p.Hi {
			return true
		}
	}
	return false
}

// SetJoin is the bytes of both sets, SetMeet those in each of them.
func SetJoin(a []Span, b []Span) []Span {
	if !SetOk(a) || !SetOk(b) {
		return nil
	}
	return bitsOf(a).join(bitsOf(b)).list()
}

// SetMeet is the bytes that are in each of two sets.
func SetMeet(a []Span, b []Span) []Span {
	if !SetOk(a) || !SetOk(b) {
		return nil
	}
	return bitsOf(a).meet(bitsOf(b)).list()
}

// SetNot is all other bytes.
func SetNot(s []Span) []Span {
	if !SetOk(s) {
		return nil
	}
	return bitsOf(s).others().list()
}

// SetSize is how many bytes there are.
func SetSize(s []Span) int {
	return bitsOf(s).size()
}

// SetFirst is the least byte, or -1.
func SetFirst(s []Span) int {
	return bitsOf(s).first()
}

// SetText writes a set.
func SetText(s []Span) string {
	return string(addSetText(nil, s))
}

// addSetText writes behind what is there: the texts of many sets are asked for again and again, and to join words takes twice as long.
func addSetText(text []byte, s []Span) []byte {
	if len(s) == 0 {
		return append(text, "no"...)
	}
	for i, p := range s {
		if i > 0 {
			text = append(text, ',')
		}
		text = addSpanText(text, p)
	}
	return text
}

func addSpanText(text []byte, p Span) []byte {
	text = strconv.AppendInt(text, int64(p.Lo), 10)
	if p.Hi != p.Lo {
		text = append(text, '-')
		text = strconv.AppendInt(text, int64(p.Hi), 10)
	}
	return text
}

// SetRead reads a set.
func SetRead(text string) ([]Span, bool) {
	if len(text) > setTextMax {
		return nil, false
	}
	var s []Span
	if text != "no" {
		for _, word := range strings.Split(text, ",") {
			p, ok := spanRead(word)
			if !ok {
				return nil, false
			}
			s = append(s, p)
		}
	}
	// Writing it again refuses what is read alike but written otherwise: "01", "+1", "5-5".
	if !SetOk(s) || SetText(s) != text {
		return nil, false
	}
	return s, true
}

func spanRead(word string) (Span, bool) {
	low, high, two := strings.Cut(word, "-")
	if !two {
		high = low
	}
	lo, errLow := strconv.Atoi(low)
	hi, errHigh := strconv.Atoi(high)
	return Span{Lo: lo, Hi: hi}, errLow == nil && errHigh == nil
}

// SetParts cuts all bytes into as few sets as tell the given ones apart.
func SetParts(list [][]Span) [][]Span {
	parts := []byteBits{byteBits{}.others()}
	for _, s := range list {
		if !SetOk(s) {
			return nil
		}
		parts = splitParts(parts, bitsOf(s))
	}
	slices.SortFunc(parts, func(x, y byteBits) int {
		return cmp.Compare(x.first(), y.first())
	})
	out := make([][]Span, len(parts))
	for i, part := range parts {
		out[i] = part.list()
	}
	return out
}

// splitParts leaves out pieces of no bytes, so that there are never more parts than bytes.
func splitParts(parts []byteBits, set byteBits) []byteBits {
	none := byteBits{}
	var out []byteBits
	for _, part := range parts {
		if inside := part.meet(set); inside != none {
			out = append(out, inside)
		}
		if outside := part.meet(set.others()); outside != none {
			out = append(out, outside)
		}
	}
	return out
}
