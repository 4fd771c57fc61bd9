package utf_test

import (
	"math"
	"slices"
	"strings"
	"testing"
	"unicode/utf16"

	"cashier/utf"
)

// point is a place and the code point there.
type point struct {
	at int
	r  rune
}

// writing gives the code point's bytes by RFC 3629's table; none, where it
// is no code point.
func writing(r rune) string {
	tail := func(shift int) byte { return byte(0x80 | r>>shift&0x3f) }
	switch {
	case r < 0 || r > 0x10ffff || r >= 0xd800 && r <= 0xdfff:
		return ""
	case r < 0x80:
		return string([]byte{byte(r)})
	case r < 0x800:
		return string([]byte{byte(0xc0 | r>>6), tail(0)})
	case r < 0x10000:
		return string([]byte{byte(0xe0 | r>>12), tail(6), tail(0)})
	}
	return string([]byte{byte(0xf0 | r>>18), tail(12), tail(6), tail(0)})
}

// read gives the code points by RFC 3629's grammar, and the place of the
// first byte that doesn't belong to whole ones, or -1.
func read(s string) ([]point, int) {
	in := func(i int, low, high byte) bool { return i < len(s) && s[i] >= low && s[i] <= high }
	tails := func(i, n int) bool {
		for k := range n {
			if !in(i+k, 0x80, 0xbf) {
				return false
			}
		}
		return true
	}
	var l []point
	for i := 0; i < len(s); {
		size := 0
		switch {
		case in(i, 0, 0x7f):
			size = 1
		case in(i, 0xc2, 0xdf) && tails(i+1, 1):
			size = 2
		case in(i, 0xe0, 0xe0) && in(i+1, 0xa0, 0xbf) && tails(i+2, 1),
			in(i, 0xe1, 0xec) && tails(i+1, 2),
			in(i, 0xed, 0xed) && in(i+1, 0x80, 0x9f) && tails(i+2, 1),
			in(i, 0xee, 0xef) && tails(i+1, 2):
			size = 3
		case in(i, 0xf0, 0xf0) && in(i+1, 0x90, 0xbf) && tails(i+2, 2),
			in(i, 0xf1, 0xf3) && tails(i+1, 3),
			in(i, 0xf4, 0xf4) && in(i+1, 0x80, 0x8f) && tails(i+2, 2):
			size = 4
		default:
			return l, i
		}
		masks := [5]byte{1: 0x7f, 2: 0x1f, 3: 0x0f, 4: 0x07}
		r := rune(s[i] & masks[size])
		for k := 1; k < size; k++ {
			r = r<<6 | rune(s[i+k]&0x3f)
		}
		l = append(l, point{i, r})
		i += size
	}
	return l, -1
}

// runes gives what Runes goes through.
func runes(s string) []point {
	var l []point
	for at, r := range utf.Runes(s) {
		l = append(l, point{at, r})
	}
	return l
}

// agrees tells whether all that is read of the text is as the grammar has it.
func agrees(t *testing.T, s string) {
	t.Helper()
	l, bad := read(s)
	if got := utf.Bad(s); got != bad {
		t.Errorf("Bad(%x) = %d, wanted %d", s, got, bad)
	}
	if got := utf.Valid(s); got != (bad == -1) {
		t.Errorf("Valid(%x) = %v", s, got)
	}
	if got := runes(s); !slices.Equal(got, l) {
		t.Errorf("Runes(%x) = %v, wanted %v", s, got, l)
	}
	if got := utf.Count(s); got != len(l) {
		t.Errorf("Count(%x) = %d, wanted %d", s, got, len(l))
	}
}

// P4.1: what is whole, what isn't, and from where on.
func TestRead(t *testing.T) {
	for _, c := range []struct {
		s          string
		bad, count int
	}{
		{"", -1, 0},
		{"a", -1, 1},
		{"\x00\x7f", -1, 2},
		{"a\xc3\xa9\xf0\x9f\x98\x80", -1, 3},
		{"\xc2\x80", -1, 1},
		{"\xdf\xbf", -1, 1},
		{"\xe0\xa0\x80", -1, 1},
		{"\xed\x9f\xbf", -1, 1},
		{"\xee\x80\x80", -1, 1},
		{"\xef\xbf\xbd", -1, 1}, // the code point that stands for bytes that are wrong
		{"a\xef\xbf\xbdb", -1, 3},
		{"\xef\xbf\xbd\xef\xbf", 3, 1},
		{"\xef\xbf\xbf", -1, 1},
		{"\xf0\x90\x80\x80", -1, 1},
		{"\xf4\x8f\xbf\xbf", -1, 1},
		{"a\xc0\x80", 1, 1},                // not the shortest way
		{"\xc1\xbf", 0, 0},                 // likewise
		{"\xe0\x80\x80", 0, 0},             // likewise
		{"\xe0\x9f\xbf", 0, 0},             // likewise
		{"\xf0\x80\x80\x80", 0, 0},         // likewise
		{"\xf0\x8f\xbf\xbf", 0, 0},         // likewise
		{"\xed\xa0\x80", 0, 0},             // a surrogate
		{"\xed\xbf\xbf", 0, 0},             // likewise
		{"\xed\xa0\xbd\xed\xb8\x80", 0, 0}, // two of them
		{"\xf4\x90\x80\x80", 0, 0},         // above 10ffff
		{"\xf5\x80\x80\x80", 0, 0},         // likewise
		{"\xf8\x88\x80\x80\x80", 0, 0},     // five bytes
		{"\xff", 0, 0},
		{"\xfe", 0, 0},
		{"ab\x80", 2, 2},
		{"\x80", 0, 0},
		{"\xbf", 0, 0},
		{"é\xa9", 2, 1},
		{"\xc3", 0, 0},
		{"a\xe2\x82", 1, 1},
		{"\xe2\x82a", 0, 0},
		{"a\xf0\x9f\x98", 1, 1},
		{"\xf0\x9f\x98a", 0, 0},
		{"\xc3\xc3\xa9", 0, 0},
		{"ab\xffcd", 2, 2},
		{strings.Repeat("é", 3000) + "\xc3", 6000, 3000},
	} {
		if got := utf.Bad(c.s); got != c.bad {
			t.Errorf("Bad(%x) = %d, wanted %d", c.s, got, c.bad)
		}
		if got := utf.Count(c.s); got != c.count {
			t.Errorf("Count(%x) = %d, wanted %d", c.s, got, c.count)
		}
		agrees(t, c.s)
	}
}

// P4.1: up to four bytes of those at which the grammar turns.
func TestReadEdges(t *testing.T) {
	edges := "\x00\x41\x7f\x80\x8f\x90\x9f\xa0\xbd\xbf\xc0\xc1\xc2\xdf\xe0\xe1\xec\xed\xee\xef\xf0\xf1\xf3\xf4\xf5\xff"
	var walk func(s string)
	walk = func(s string) {
		agrees(t, s)
		for i := range len(edges) {
			if len(s) < 4 {
				walk(s + edges[i:i+1])
			}
		}
	}
	walk("")
	for a := range 256 {
		for b := range 256 {
			agrees(t, string([]byte{byte(a), byte(b)}))
		}
	}
}

// P4.1: as often and as far as one likes.
func TestRunesLeft(t *testing.T) {
	seq := utf.Runes("a\u00e9\u20ac\xff")
	all := []point{{0, 'a'}, {1, 0xe9}, {3, 0x20ac}}
	for stop := 1; stop <= len(all)+1; stop++ {
		var got []point
		for at, r := range seq {
			got = append(got, point{at, r})
			if len(got) == stop {
				break
			}
		}
		if !slices.Equal(got, all[:min(stop, len(all))]) {
			t.Errorf("left behind %d: %v", stop, got)
		}
	}
}

// P4.1: the writing of each number near the code points' ends.
func TestPut(t *testing.T) {
	for _, c := range []struct {
		r    rune
		want string
	}{
		{0, "\x00"},
		{'a', "a"},
		{0x7f, "\x7f"},
		{0x80, "\xc2\x80"},
		{0x7ff, "\xdf\xbf"},
		{0x800, "\xe0\xa0\x80"},
		{0x20ac, "\xe2\x82\xac"},
		{0xd7ff, "\xed\x9f\xbf"},
		{0xd800, ""},
		{0xdbff, ""},
		{0xdc00, ""},
		{0xdfff, ""},
		{0xe000, "\xee\x80\x80"},
		{0xfffd, "\xef\xbf\xbd"},
		{0xffff, "\xef\xbf\xbf"},
		{0x10000, "\xf0\x90\x80\x80"},
		{0x1f600, "\xf0\x9f\x98\x80"},
		{0x10ffff, "\xf4\x8f\xbf\xbf"},
		{0x110000, ""},
		{-1, ""},
		{math.MaxInt32, ""},
		{math.MinInt32, ""},
	} {
		if got := utf.Put(c.r); got != c.want {
			t.Errorf("Put(%x) = %x, wanted %x", c.r, got, c.want)
		}
	}
}

// P4.1, P4.3: each code point is written as RFC 3629 has it, and read back.
func TestPutReadBack(t *testing.T) {
	var all strings.Builder
	var points []point
	for r := rune(-0x100); r <= 0x110100; r++ {
		s := utf.Put(r)
		if s != writing(r) {
			t.Errorf("Put(%x) = %x, wanted %x", r, s, writing(r))
		}
		if s == "" {
			continue
		}
		points = append(points, point{all.Len(), r})
		all.WriteString(s)
		if got := runes(s); len(got) != 1 || got[0] != (point{0, r}) || !utf.Valid(s) || utf.Count(s) != 1 {
			t.Errorf("%x is read as %v", r, got)
		}
	}
	if got := runes(all.String()); !slices.Equal(got, points) {
		t.Errorf("all %d code points are read as %d, others", len(points), len(got))
	}
	if got := utf.Bad(all.String()); got != -1 {
		t.Errorf("Bad of all is %d", got)
	}
}

// P4.2: each number of 16 bits.
func TestSurrogate(t *testing.T) {
	for n := range 0x10000 {
		want := 0
		if n >= 0xd800 && n <= 0xdbff {
			want = 1
		}
		if n >= 0xdc00 && n <= 0xdfff {
			want = 2
		}
		if got := utf.Surrogate(uint16(n)); got != want {
			t.Errorf("Surrogate(%x) = %d, wanted %d", n, got, want)
		}
	}
}

// P4.2: pairs, and what is none.
func TestPair(t *testing.T) {
	for _, c := range []struct {
		high, low uint16
		want      rune
		ok        bool
	}{
		{0xd83d, 0xde00, 0x1f600, true},
		{0xd800, 0xdc00, 0x10000, true},
		{0xd800, 0xdfff, 0x103ff, true},
		{0xd801, 0xdc00, 0x10400, true},
		{0xdbff, 0xdc00, 0x10fc00, true},
		{0xdbff, 0xdfff, 0x10ffff, true},
		{0xde00, 0xd83d, 0, false},
		{0xd800, 0xd800, 0, false},
		{0xdc00, 0xdc00, 0, false},
		{0xd7ff, 0xdc00, 0, false},
		{0xdc00, 0xdfff, 0, false},
		{0xd800, 0xdbff, 0, false},
		{0xd800, 0xe000, 0, false},
		{0xe000, 0xdc00, 0, false},
		{0, 0xdc00, 0, false},
		{0xd800, 0, 0, false},
		{0, 0, 0, false},
		{'a', 'b', 0, false},
		{0xffff, 0xffff, 0, false},
	} {
		if got, ok := utf.Pair(c.high, c.low); got != c.want || ok != c.ok {
			t.Errorf("Pair(%x, %x) = %x, %v, wanted %x, %v", c.high, c.low, got, ok, c.want, c.ok)
		}
	}
}

// P4.2: the pair of each code point that has one, and none of others.
func TestSplit(t *testing.T) {
	for _, c := range []struct {
		r         rune
		high, low uint16
		ok        bool
	}{
		{0x10000, 0xd800, 0xdc00, true},
		{0x103ff, 0xd800, 0xdfff, true},
		{0x10400, 0xd801, 0xdc00, true},
		{0x1f600, 0xd83d, 0xde00, true},
		{0x10ffff, 0xdbff, 0xdfff, true},
		{0xffff, 0, 0, false},
		{0x110000, 0, 0, false},
		{0xd800, 0, 0, false},
		{0xdfff, 0, 0, false},
		{'a', 0, 0, false},
		{0, 0, 0, false},
		{-1, 0, 0, false},
		{math.MinInt32, 0, 0, false},
		{math.MaxInt32, 0, 0, false},
	} {
		if high, low, ok := utf.Split(c.r); high != c.high || low != c.low || ok != c.ok {
			t.Errorf("Split(%x) = %x, %x, %v", c.r, high, low, ok)
		}
	}
	for r := rune(0x10000); r <= 0x10ffff; r++ {
		high, low, ok := utf.Split(r)
		wantHigh, wantLow := utf16.EncodeRune(r)
		if rune(high) != wantHigh || rune(low) != wantLow || !ok {
			t.Errorf("Split(%x) = %x, %x, %v", r, high, low, ok)
		}
	}
}

// P4.3: a pair is the code point whose pair it is.
func TestSplitPair(t *testing.T) {
	for r := rune(0x10000); r <= 0x10ffff; r++ {
		high, low, _ := utf.Split(r)
		if got, ok := utf.Pair(high, low); got != r || !ok {
			t.Errorf("Pair(Split(%x)) = %x, %v", r, got, ok)
		}
	}
}

// P1: every call ends and none panics, whatever bytes and numbers come.
func FuzzEnds(f *testing.F) {
	f.Add("", int32(0), uint16(0), uint16(0))
	f.Add("a\xc0\x80", int32(math.MinInt32), uint16(0xd800), uint16(0xdc00))
	f.Add("\xef\xbf\xbd\xf4\x90\x80\x80", int32(math.MaxInt32), uint16(0xffff), uint16(0xffff))
	f.Add("\xed\xa0\x80", int32(0xd800), uint16(0xdc00), uint16(0xd800))
	f.Add("\xf0\x9f\x98", int32(0x10ffff), uint16(0xdbff), uint16(0xdfff))
	f.Fuzz(func(t *testing.T, s string, r int32, a, b uint16) {
		agrees(t, s)
		var again strings.Builder
		for _, r := range utf.Runes(s) {
			again.WriteString(utf.Put(r))
		}
		if !strings.HasPrefix(s, again.String()) {
			t.Errorf("%x is written again as %x", s, again.String())
		}
		if got := utf.Put(r); got != writing(r) {
			t.Errorf("Put(%x) = %x", r, got)
		}
		if got, ok := utf.Pair(a, b); ok != (utf.Surrogate(a) == 1 && utf.Surrogate(b) == 2) || (got > 0xffff) != ok {
			t.Errorf("Pair(%x, %x) = %x, %v", a, b, got, ok)
		}
		if high, low, ok := utf.Split(r); ok != (utf.Surrogate(high) == 1 && utf.Surrogate(low) == 2) {
			t.Errorf("Split(%x) = %x, %x, %v", r, high, low, ok)
		}
	})
}
