package version_test

import (
	"math/rand/v2"
	"regexp"
	"slices"
	"strconv"
	"strings"
	"testing"

	"cashier/api"
	"cashier/version"
)

// form is what a version's text looks like; its numbers may be too great yet.
var form = regexp.MustCompile(`\A(0|[1-9][0-9]*)\.(0|[1-9][0-9]*)\.(0|[1-9][0-9]*)\z`)

// told gives, in another way, the version of a text, and whether it is one's.
func told(s string) (version.V, bool) {
	var v version.V
	parts := form.FindStringSubmatch(s)
	if parts == nil {
		return v, false
	}
	for i := range v {
		n, err := strconv.ParseUint(parts[i+1], 10, 16)
		if err != nil {
			return version.V{}, false
		}
		v[i] = uint16(n)
	}
	return v, true
}

// parsed holds Parse, and the way back, against what is told.
func parsed(t *testing.T, s string) {
	t.Helper()
	got, err := version.Parse(s)
	want, ok := told(s)
	switch {
	case !ok && (err != api.ErrForm || got != version.V{}):
		t.Errorf("Parse(%.60q) = %v, %v; it is no version", s, got, err)
	case ok && (err != api.OK || got != want || got.Text() != s):
		t.Errorf("Parse(%.60q) = %v, %v; Text() = %q", s, got, err, got.Text())
	}
}

// number gives a version as one number.
func number(v version.V) uint64 { return uint64(v[0])<<32 | uint64(v[1])<<16 | uint64(v[2]) }

// within tells in another way whether the first one is from low to high.
func within(asked, low, high string) bool {
	v, ok := told(asked)
	from, okFrom := told(low)
	to, okTo := told(high)
	return ok && okFrom && okTo && number(from) <= number(v) && number(v) <= number(to)
}

// P17.1: versions' texts, both ways.
func TestTexts(t *testing.T) {
	for s, want := range map[string]version.V{
		"0.0.0":             {},
		"2.1.0":             {2, 1, 0},
		"2.2.0":             {2, 2, 0},
		"0.0.1":             {0, 0, 1},
		"1.0.0":             {1, 0, 0},
		"10.20.30":          {10, 20, 30},
		"100.0.9":           {100, 0, 9},
		"255.256.257":       {255, 256, 257},
		"32767.32768.9999":  {32767, 32768, 9999},
		"65535.0.0":         {65535, 0, 0},
		"0.65535.0":         {0, 65535, 0},
		"65535.65535.65535": {65535, 65535, 65535},
	} {
		if got, err := version.Parse(s); got != want || err != api.OK {
			t.Errorf("Parse(%q) = %v, %v", s, got, err)
		}
		if got := want.Text(); got != s {
			t.Errorf("Text of %v = %q, wanted %q", [3]uint16(want), got, s)
		}
	}
}

// P17.1: what is no version.
func TestParseRefuses(t *testing.T) {
	for _, s := range []string{
		"", " ", ".", "..", "...", "2", "2.1", "2.", "2.1.", "2..", ".1.0", "..0", "2..0", ".2.1.0", "2.1.0.", "2..1.0", // numbers that lack
		"2.1.0.0", "2.1.0.0.0", "2.1.0.x", "1.2.3.4.5.6", // too many
		"02.1.0", "2.01.0", "2.1.00", "2.1.01", "00.0.0", "0.0.000000", "2.1.000000000000000000000", // noughts ahead
		"65536.0.0", "0.65536.0", "2.1.65536", "2.1.65537", "2.1.99999", "2.1.131072", "2.1.4294967296", "2.1.4294967297", // too great
		"2.1.18446744073709551615", "2.1.18446744073709551616", "2.1.18446744073709617152", "2.1." + strings.Repeat("9", 1000),
		"a.b.c", "2.1.a", "x.1.0", "2.x.0", "v2.1.0", "2.1.0a", "2.1.0-1", "2.1.0+1", "0x2.1.0", "2.1.1e1", "1_0.0.0",
		"-2.1.0", "2.-1.0", "2.1.-0", "+2.1.0", "2.+1.0", "2.1.+0",
		" 2.1.0", "2.1.0 ", "2. 1.0", "2 .1.0", "2.1.0\n", "\t2.1.0", "2.1.0\x00", "2\x00.1.0", "\ufeff2.1.0",
		"2,1,0", "2:1:0", "2-1-0", "2/1/0", "210", "2\u30021\u30020", "\uff12.1.0", "2.\u0661.0", "2.1.\u0660", "\xb2.1.0", "2.1.0\xff",
		strings.Repeat(".", 100000), strings.Repeat("0.", 100000) + "0", strings.Repeat("1", 100000) + ".0.0", strings.Repeat("0", 100000) + "2.1.0",
	} {
		if _, ok := told(s); ok {
			t.Errorf("the test takes %.60q for a version", s)
		}
		parsed(t, s)
	}
}

// P17.1: every number, at every place, and those behind the greatest one.
func TestNumbers(t *testing.T) {
	for n := range 70000 {
		digits := strconv.Itoa(n)
		for _, s := range []string{digits + ".1.0", "2." + digits + ".0", "2.1." + digits} {
			got, err := version.Parse(s)
			if n > 65535 {
				if err != api.ErrForm || got != (version.V{}) {
					t.Fatalf("Parse(%q) = %v, %v", s, got, err)
				}
			} else if err != api.OK || got.Text() != s {
				t.Fatalf("Parse(%q) = %v, %v; Text() = %q", s, got, err, got.Text())
			}
		}
	}
}

// P17.1: texts in which one byte is another one, or more, or less.
func TestTurned(t *testing.T) {
	for _, s := range []string{"2.1.0", "10.0.65535", "65535.65529.6553"} {
		for at := range len(s) {
			for b := range 256 {
				letter := string([]byte{byte(b)})
				parsed(t, s[:at]+letter+s[at+1:])
				parsed(t, s[:at]+letter+s[at:])
				parsed(t, s+letter)
			}
			parsed(t, s[:at]+s[at+1:])
			parsed(t, s[:at])
			parsed(t, s[at:])
		}
	}
}

// P17.1: versions number by number.
func TestCmp(t *testing.T) {
	rising := []version.V{
		{}, {0, 0, 1}, {0, 0, 255}, {0, 0, 256}, {0, 0, 65535}, {0, 1, 0}, {0, 1, 65535}, {0, 255, 0}, {0, 256, 0}, {0, 65535, 0}, {0, 65535, 65535},
		{1, 0, 0}, {1, 0, 2}, {1, 2, 0}, {2, 0, 65535}, {2, 1, 0}, {2, 1, 9}, {2, 1, 10}, {2, 2, 0}, {2, 10, 0}, {9, 65535, 65535}, {10, 0, 0},
		{32767, 0, 0}, {32768, 0, 0}, {65535, 0, 0}, {65535, 65535, 65535},
	}
	for i, a := range rising {
		for k, b := range rising {
			want := 0
			if i < k {
				want = -1
			} else if i > k {
				want = 1
			}
			if got := version.Cmp(a, b); got != want {
				t.Errorf("Cmp(%v, %v) = %d, wanted %d", a, b, got, want)
			}
		}
	}
}

// P17.1: those that are known, in order, as often and as far as one likes.
func TestKnown(t *testing.T) {
	seq := version.Known()
	for range 2 {
		if got := slices.Collect(seq); !slices.Equal(got, []version.V{{2, 1, 0}, {2, 2, 0}}) {
			t.Errorf("Known() goes through %v", got)
		}
		for v := range seq {
			v[0] = 9
			break
		}
	}
}

// some are texts around the ends of what is known, and such as are no
// versions.
func some() []string {
	return []string{
		"0.0.0", "1.9.9", "2.0.0", "2.0.65535", "2.1.0", "2.1.1", "2.1.9", "2.1.10", "2.1.65535", "2.2.0", "2.2.1", "2.3.0", "2.10.0", "3.0.0", "10.1.0", "65535.65535.65535",
		"", "2.1", "2.01.0", "2.1.0 ", "2.2.0.0", "2.1.65536", "02.2.0", "x",
	}
}

// P17.2: is one from low to high? P17.3 with it: the best one is within.
func TestWithin(t *testing.T) {
	for _, low := range some() {
		for _, high := range some() {
			want := ""
			for _, s := range []string{"2.2.0", "2.1.0"} {
				if want == "" && within(s, low, high) {
					want = s
				}
			}
			if got, ok := version.Best(low, high); got != want || ok != (want != "") {
				t.Errorf("Best(%q, %q) = %q, %v, wanted %q", low, high, got, ok, want)
			} else if ok && !version.Within(got, low, high) {
				t.Errorf("Best(%q, %q) = %q isn't within", low, high, got)
			}
			for _, asked := range some() {
				if got := version.Within(asked, low, high); got != within(asked, low, high) {
					t.Errorf("Within(%q, %q, %q) = %v", asked, low, high, got)
				}
			}
		}
	}
}

// P17.2: by hand.
func TestByHand(t *testing.T) {
	for _, c := range []struct {
		asked, low, high string
		want             bool
	}{
		{"2.1.0", "2.1.0", "2.1.0", true},
		{"2.1.0", "2.1.0", "2.2.0", true},
		{"2.2.0", "2.1.0", "2.2.0", true},
		{"2.3.0", "2.1.0", "2.2.0", false},
		{"2.0.9", "2.1.0", "2.2.0", false},
		{"2.1.5", "2.1.0", "2.1.10", true}, // by numbers, not by letters
		{"2.9.0", "2.10.0", "2.20.0", false},
		{"9.0.0", "2.0.0", "10.0.0", true},
		{"2.1.0", "2.2.0", "2.1.0", false}, // low is later
		{"2.1.0", "2.1.0", "", false},
		{"2.1.0", "", "2.2.0", false},
		{"", "2.1.0", "2.2.0", false},
		{"", "", "", false},
		{"2.1", "2.1", "2.1", false},
	} {
		if got := version.Within(c.asked, c.low, c.high); got != c.want {
			t.Errorf("Within(%q, %q, %q) = %v", c.asked, c.low, c.high, got)
		}
	}
	for _, c := range []struct{ low, high, want string }{
		{"2.0.0", "2.1.9", "2.1.0"},
		{"0.0.0", "65535.65535.65535", "2.2.0"},
		{"2.1.0", "2.1.0", "2.1.0"},
		{"2.2.0", "2.2.0", "2.2.0"},
		{"2.1.1", "2.2.0", "2.2.0"},
		{"2.1.0", "2.2.0", "2.2.0"},
		{"2.1.0", "2.10.0", "2.2.0"},
		{"2.1.1", "2.1.9", ""},
		{"2.2.1", "3.0.0", ""},
		{"3.0.0", "4.0.0", ""},
		{"0.0.0", "2.0.9", ""},
		{"2.2.0", "2.1.0", ""},
		{"", "2.2.0", ""},
		{"2.1.0", "", ""},
		{"2.1.0", "9", ""},
		{"0", "9.0.0", ""},
	} {
		if got, ok := version.Best(c.low, c.high); got != c.want || ok != (c.want != "") {
			t.Errorf("Best(%q, %q) = %q, %v, wanted %q", c.low, c.high, got, ok, c.want)
		}
	}
}

// P17.1: of chance: what is written is read as it was, and orders alike.
func TestBack(t *testing.T) {
	r := rand.New(rand.NewPCG(17, 1))
	var before version.V
	for range 20000 {
		v := version.V{uint16(r.Uint32()), uint16(r.Uint32()), uint16(r.Uint32())}
		if r.IntN(2) == 0 {
			v = before
			v[r.IntN(3)] = uint16(r.Uint32N(300))
		}
		if got, err := version.Parse(v.Text()); got != v || err != api.OK {
			t.Fatalf("%v is read as %v, %v", [3]uint16(v), got, err)
		}
		want := 0
		if number(before) < number(v) {
			want = -1
		} else if number(before) > number(v) {
			want = 1
		}
		if got := version.Cmp(before, v); got != want {
			t.Fatalf("Cmp(%v, %v) = %d", before, v, got)
		}
		before = v
	}
}

// P1: every call ends and none panics, whatever is handed in.
func FuzzEnds(f *testing.F) {
	f.Add("2.1.0", "2.0.0", "2.2.0")
	f.Add("", "...", "65536.0.0")
	f.Add("2.01.0", "-1.0.0", "2.1.0.0")
	f.Fuzz(func(t *testing.T, asked, low, high string) {
		parsed(t, asked)
		if got := version.Within(asked, low, high); got != within(asked, low, high) {
			t.Errorf("Within(%q, %q, %q) = %v", asked, low, high, got)
		}
		best, ok := version.Best(low, high)
		if ok != (within("2.1.0", low, high) || within("2.2.0", low, high)) || ok != within(best, low, high) || !ok && best != "" {
			t.Errorf("Best(%q, %q) = %q, %v", low, high, best, ok)
		}
	})
}
