package base_test

import (
	"encoding/base64"
	"encoding/hex"
	"math"
	"math/big"
	"slices"
	"strings"
	"testing"

	"cashier/api"
	"cashier/base"
)

const words = "ABCDEFGHIJKLMNOPQRSTUVWXYZabcdefghijklmnopqrstuvwxyz0123456789"

// alphabet is one of the program's, and what the library says to it.
type alphabet struct {
	name    string
	own     base.Alphabet
	letters string
	encode  func([]byte) string
	size    func(n *big.Int) *big.Int
}

// size64 gives the letters of base 64: per three bytes four, and those that
// begin with one.
func size64(n *big.Int, up int64) *big.Int {
	m := new(big.Int).Mul(n, big.NewInt(4))
	return m.Add(m, big.NewInt(up)).Div(m, big.NewInt(3))
}

func alphabets() []alphabet {
	return []alphabet{
		{"Hex", base.Hex(), "0123456789abcdef", hex.EncodeToString,
			func(n *big.Int) *big.Int { return new(big.Int).Lsh(n, 1) }},
		{"Std", base.Std(), words + "+/", base64.StdEncoding.EncodeToString,
			func(n *big.Int) *big.Int {
				m := new(big.Int).Add(n, big.NewInt(2))
				return m.Div(m, big.NewInt(3)).Lsh(m, 2)
			}},
		{"URL", base.URL(), words + "-_", base64.RawURLEncoding.EncodeToString,
			func(n *big.Int) *big.Int { return size64(n, 2) }},
	}
}

// patterned gives n bytes that aren't all alike.
func patterned(n int) string {
	b := make([]byte, n)
	for i := range b {
		b[i] = byte(i*167 + i>>8*31 + 5)
	}
	return string(b)
}

// P2.1: which letters there are.
func TestLetters(t *testing.T) {
	for _, a := range alphabets() {
		if got := a.own.Letters(); got != a.letters {
			t.Errorf("%s: %q", a.name, got)
		}
	}
}

// P2.1: the zero Alphabet has the empty text alone.
func TestZeroAlphabet(t *testing.T) {
	var none base.Alphabet
	if got := none.Letters(); got != "" {
		t.Errorf("letters %q", got)
	}
	for _, s := range []string{"", "a", "abc", "\x00", "===="} {
		if got := none.Encode(s); got != "" {
			t.Errorf("Encode(%q) = %q", s, got)
		}
	}
	for _, n := range []int{math.MinInt, -1, 0, 1, 3, math.MaxInt} {
		if got := none.Size(n); got != 0 {
			t.Errorf("Size(%d) = %d", n, got)
		}
	}
	if s, err := none.Decode(""); s != "" || err != api.OK {
		t.Errorf("Decode of nothing: %q, %v", s, err)
	}
	for _, s := range []string{"0", "A", "AA==", "=", "\x00", " "} {
		if got, err := none.Decode(s); got != "" || err != api.ErrForm {
			t.Errorf("Decode(%q) = %q, %v", s, got, err)
		}
	}
}

// P2.1, P2.2: the letters of RFC 4648's examples.
func TestEncodeExamples(t *testing.T) {
	for _, c := range []struct{ s, hex, std, url string }{
		{"", "", "", ""},
		{"f", "66", "Zg==", "Zg"},
		{"fo", "666f", "Zm8=", "Zm8"},
		{"foo", "666f6f", "Zm9v", "Zm9v"},
		{"foob", "666f6f62", "Zm9vYg==", "Zm9vYg"},
		{"fooba", "666f6f6261", "Zm9vYmE=", "Zm9vYmE"},
		{"foobar", "666f6f626172", "Zm9vYmFy", "Zm9vYmFy"},
		{"\xfb\xff", "fbff", "+/8=", "-_8"},
		{"\x00", "00", "AA==", "AA"},
		{"\x0f\xf0", "0ff0", "D/A=", "D_A"},
		{"\xff\xff\xff", "ffffff", "////", "____"},
	} {
		for _, w := range []struct {
			name string
			own  base.Alphabet
			want string
		}{{"Hex", base.Hex(), c.hex}, {"Std", base.Std(), c.std}, {"URL", base.URL(), c.url}} {
			if got := w.own.Encode(c.s); got != w.want {
				t.Errorf("%s.Encode(%q) = %q, wanted %q", w.name, c.s, got, w.want)
			}
			if got, err := w.own.Decode(w.want); got != c.s || err != api.OK {
				t.Errorf("%s.Decode(%q) = %q, %v", w.name, w.want, got, err)
			}
		}
	}
}

// P2.2: each byte's letters, at each place among three.
func TestEncodeEachByte(t *testing.T) {
	for _, a := range alphabets() {
		for b := range 256 {
			for _, s := range [][]byte{{byte(b)}, {7, byte(b)}, {7, 250, byte(b)}, {byte(b), 1, 2, 3}} {
				if got, want := a.own.Encode(string(s)), a.encode(s); got != want {
					t.Errorf("%s.Encode(%x) = %q, wanted %q", a.name, s, got, want)
				}
			}
		}
	}
}

// P2.2: how many letters, up to the greatest number.
func TestSize(t *testing.T) {
	most := big.NewInt(math.MaxInt)
	ends := []int{
		math.MaxInt, math.MaxInt - 1, math.MaxInt - 2, math.MaxInt - 3,
		math.MaxInt / 2, math.MaxInt/2 + 1, math.MaxInt/4*3 - 1, math.MaxInt / 4 * 3,
		math.MaxInt/4*3 + 1, math.MaxInt/4*3 + 2, math.MaxInt/4*3 + 3, math.MaxInt / 8, math.MaxInt/8 + 1,
	}
	for n := range 20 {
		ends = append(ends, n)
	}
	for _, a := range alphabets() {
		for _, n := range ends {
			want := a.size(big.NewInt(int64(n)))
			if want.Cmp(most) > 0 {
				want = most
			}
			if got := a.own.Size(n); int64(got) != want.Int64() {
				t.Errorf("%s.Size(%d) = %d, wanted %d", a.name, n, got, want)
			}
		}
		for _, n := range []int{0, -1, -3, -4, math.MinInt} {
			if got := a.own.Size(n); got != 0 {
				t.Errorf("%s.Size(%d) = %d", a.name, n, got)
			}
		}
		for n := range 50 {
			if got, want := a.own.Size(n), len(a.own.Encode(patterned(n))); got != want {
				t.Errorf("%s.Size(%d) = %d, of %d letters", a.name, n, got, want)
			}
		}
	}
}

// P2.2: what is no writing of any text.
func TestDecodeRefuses(t *testing.T) {
	for _, c := range []struct {
		name string
		own  base.Alphabet
		bad  []string
	}{
		{"Hex", base.Hex(), []string{
			"0", "000", "0G", "G0", "0A", "FF", "0g", "00=", "00==", "=", " 00", "00 ", "0 0",
			"00\n", "\x00\x00", "0x00", "\xff\xff", "é0",
		}},
		{"Std", base.Std(), []string{
			"Z", "Zg", "Zg=", "Zg===", "Zg====", "Zh==", "ZgB=", "Zm8", "Zm9=", "Zm8==", "Zm9v=",
			"Zm9v====", "Zm9vY", "Zm9v\n", "\nZm9v", "Zm\n9v", "Zm9v ", " Zm9v", "=", "==", "===",
			"====", "A===", "Zg=A", "Zg==Zg==", "Zg=\n=", "Z=g=", "-_8=", "Zm9\x00", "Zm9\xff",
			"ZZZ!", "Zm8=Zm9v",
		}},
		{"URL", base.URL(), []string{
			"Z", "Zh", "Zm9", "Zg==", "Zg=", "Zm8=", "=", "====", "Zm9vY", "+/8", "Zm9v\n", "Z g",
			"\rZg", "Zm9v=", "\x00", "Zm9\x80",
		}},
	} {
		for _, bad := range c.bad {
			if got, err := c.own.Decode(bad); got != "" || err != api.ErrForm {
				t.Errorf("%s.Decode(%q) = %q, %v", c.name, bad, got, err)
			}
		}
	}
}

// P2.2, P2.3: of all texts of few letters just the writings are read.
func TestDecodeOnlyWritings(t *testing.T) {
	letters := "ABgwZ049af+/-_=G\n\x00\xff"
	for _, a := range alphabets() {
		var walk func(text string)
		walk = func(text string) {
			s, err := a.own.Decode(text)
			if (err == api.OK) != isWriting(a, text) {
				t.Errorf("%s.Decode(%q) = %q, %v", a.name, text, s, err)
			}
			if err == api.OK && a.own.Encode(s) != text {
				t.Errorf("%s: %q comes from %q", a.name, s, text)
			}
			for i := range len(letters) {
				if len(text) < 4 {
					walk(text + letters[i:i+1])
				}
			}
		}
		walk("")
	}
}

// isWriting asks the library whether some text is written so.
func isWriting(a alphabet, text string) bool {
	switch {
	case strings.ContainsAny(text, "\r\n"): // which encoding/base64 passes over
		return false
	case a.name == "Hex":
		_, err := hex.DecodeString(text)
		return err == nil && !slices.ContainsFunc([]byte(text), func(b byte) bool { return b >= 'A' && b <= 'F' })
	case a.name == "Std":
		_, err := base64.StdEncoding.Strict().DecodeString(text)
		return err == nil
	}
	_, err := base64.RawURLEncoding.Strict().DecodeString(text)
	return err == nil
}

// P2.3: each text comes back from its writing.
func TestComesBack(t *testing.T) {
	for _, a := range alphabets() {
		for _, n := range []int{0, 1, 2, 3, 4, 5, 6, 7, 31, 32, 33, 1000, 4096} {
			for _, s := range []string{patterned(n), strings.Repeat("\x00", n), strings.Repeat("\xff", n)} {
				if got, err := a.own.Decode(a.own.Encode(s)); got != s || err != api.OK {
					t.Errorf("%s: %d bytes don't come back: %v", a.name, n, err)
				}
			}
		}
	}
}

// P1: every call ends and none panics, whatever bytes and numbers come.
func FuzzEnds(f *testing.F) {
	f.Add("", 0)
	f.Add("\xff\xff\xff", math.MaxInt)
	f.Add("====", math.MinInt)
	f.Add("Zg==", -1)
	f.Add("Zg=\x00", 1)
	f.Add(strings.Repeat("0", 4097), 4096)
	f.Fuzz(func(t *testing.T, s string, n int) {
		for _, a := range append(alphabets(), alphabet{name: "zero", encode: func([]byte) string { return "" }}) {
			a.own.Letters()
			if a.own.Size(n) < 0 {
				t.Errorf("%s.Size(%d) = %d", a.name, n, a.own.Size(n))
			}
			if got, want := a.own.Encode(s), a.encode([]byte(s)); got != want {
				t.Errorf("%s.Encode(%x) = %q, wanted %q", a.name, s, got, want)
			}
			switch got, err := a.own.Decode(s); {
			case err == api.OK && a.own.Encode(got) != s:
				t.Errorf("%s.Decode(%q) = %x", a.name, s, got)
			case err != api.OK && (err != api.ErrForm || got != ""):
				t.Errorf("%s.Decode(%q) = %x, %v", a.name, s, got, err)
			}
		}
	})
}
