package format_test

import (
	"encoding/base64"
	"math"
	"math/rand/v2"
	"regexp"
	"slices"
	"strings"
	"testing"
	"time"
	"unicode/utf8"

	"cashier/api"
	"cashier/format"
)

var noughts = "00000000-0000-0000-0000-000000000000"

// fits holds a rule against texts that fit, and such as don't.
func fits(t *testing.T, r format.Rule, want bool, texts ...string) {
	t.Helper()
	for _, s := range texts {
		if got := r.Fits(s); got != want {
			t.Errorf("%.80v: Fits(%.80q) = %v", r, s, got)
		}
		if want && len(s) > r.Longest() {
			t.Errorf("%.80v: %d bytes fit, but Longest is %d", r, len(s), r.Longest())
		}
	}
}

// P14.1: the kinds' numbers.
func TestNumbers(t *testing.T) {
	got := []int{format.Digits, format.Text, format.ID, format.Among, format.Card, format.Date, format.Proof, format.Amount}
	if !slices.Equal(got, []int{1, 2, 3, 4, 5, 6, 7, 8}) {
		t.Errorf("the kinds are %v", got)
	}
}

// P14.1: digits.
func TestDigits(t *testing.T) {
	r := format.Of(format.Digits, 2, 3)
	fits(t, r, true, "07", "00", "99", "123", "000", "999")
	fits(t, r, false, "", "7", "1234", "0000", "1a", "a1", "+1", "-1", " 1", "1 ", "12\n", "1.", "1/", "1:", "\x00\x00", "\xb1\xb2", "٣", "１", "1１")
	for min := range 4 {
		for max := min; max < 5; max++ {
			r := format.Of(format.Digits, min, max)
			for n := range 7 {
				fits(t, r, min <= n && n <= max, strings.Repeat("0", n), strings.Repeat("9", n))
				fits(t, r, false, strings.Repeat("9", n)+"x", "x"+strings.Repeat("9", n))
			}
		}
	}
	fits(t, format.Of(format.Digits, 0, 4096), true, "", strings.Repeat("1", 4096))
	fits(t, format.Of(format.Digits, 4096, 4096), true, strings.Repeat("1", 4096))
	fits(t, format.Of(format.Digits, 4096, 4096), false, strings.Repeat("1", 4095), strings.Repeat("1", 4097), strings.Repeat("1", 100000))
}

// P14.1: digits without a nought ahead of others.
func TestAmount(t *testing.T) {
	r := format.Of(format.Amount, 1, 3)
	fits(t, r, true, "0", "1", "9", "10", "99", "100", "999", "909")
	fits(t, r, false, "", "00", "01", "000", "001", "010", "099", "1000", "0000", "-1", "+1", "1.", "a", " 1", "1 ", "0a", "a0", "٣")
	r = format.Of(format.Amount, 2, 12)
	fits(t, r, true, "10", "999999999999")
	fits(t, r, false, "0", "1", "00", "05", "1000000000000", "012345678901")
	fits(t, format.Of(format.Amount, 0, 1), true, "", "0", "5")
	fits(t, format.Of(format.Amount, 0, 0), true, "")
	fits(t, format.Of(format.Amount, 0, 0), false, "0", "1")
	fits(t, format.Of(format.Amount, 0, 4096), true, strings.Repeat("10", 2048))
	fits(t, format.Of(format.Amount, 0, 4096), false, strings.Repeat("10", 2048)+"1", strings.Repeat("01", 2048))
}

// P14.1: code points.
func TestText(t *testing.T) {
	r := format.Of(format.Text, 1, 2)
	fits(t, r, true, "a", "ab", "é", "éé", "€€", "\U0010ffff\U0001f600", " ", "~", "\u0080\u009f", "\u00a0", "\ufffd", "\ufeff", "\u2028", "a\u0301", "\"\\", "\ud7ff\ue000")
	fits(t, r, false, "", "abc", "ééé", "a\u0301b", "\U0010ffff\U0010ffff\U0010ffff")
	// Bytes that are no code points' writing:
	fits(t, r, false, "\x80", "\xff", "a\xff", "\xffa", "\xc3", "a\xc3", "\xe2\x82", "\xc0\x80", "\xc1\xbf", "\xe0\x80\x80", "\xed\xa0\x80", "\xed\xbf\xbf", "\xf4\x90\x80\x80", "\xf8\x88\x80\x80\x80", "ab\xff", "é\xa9")
	for r := range rune(256) { // those that are controls
		for _, s := range []string{string(r), "a" + string(r), string(r) + "€"} {
			fits(t, format.Of(format.Text, 0, 9), r >= 32 && r != 127, s)
		}
	}
	for _, letter := range []string{"a", "é", "€", "\U0001f600"} {
		for min := range 4 {
			for max := min; max < 5; max++ {
				for n := range 7 {
					fits(t, format.Of(format.Text, min, max), min <= n && n <= max, strings.Repeat(letter, n))
				}
			}
		}
		r := format.Of(format.Text, 4096, 4096)
		fits(t, r, true, strings.Repeat(letter, 4096))
		fits(t, r, false, strings.Repeat(letter, 4095), strings.Repeat(letter, 4097))
	}
}

// P14.1: ids.
func TestID(t *testing.T) {
	r := format.Of(format.ID, 0, 0)
	fits(t, r, true, "30313233-3435-4637-b839-616263646566", "00000000-0000-0000-0000-000000000001", "10000000-0000-0000-0000-000000000000", "ffffffff-ffff-ffff-ffff-ffffffffffff")
	fits(t, r, false, noughts, "", "x", "30313233-3435-4637-b839-61626364656", "30313233-3435-4637-b839-6162636465666", "30313233-3435-4637-B839-616263646566",
		"30313233-3435-4637-b839-61626364656g", "3031323334354637b839616263646566", "303132333-435-4637-b839-616263646566", " 30313233-3435-4637-b839-616263646566", "30313233-3435-4637-b839-616263646566\n")
}

// P14.1: one of the rule's texts.
func TestAmong(t *testing.T) {
	r := format.Of(format.Among, 0, 0, "01", "02", "\xff\x00", "long one")
	fits(t, r, true, "01", "02", "\xff\x00", "long one")
	fits(t, r, false, "", "0", "1", "03", "012", "0102", "01,02", "LONG ONE", "long one ", "long", "\xff")
	fits(t, format.Of(format.Among, 0, 0, ""), true, "")
	fits(t, format.Of(format.Among, 0, 0, ""), false, " ", "\x00")
	fits(t, format.Of(format.Among, 7, 2, "a", "a"), true, "a") // Min and Max count nothing
}

// P14.1: cards' numbers.
func TestCard(t *testing.T) {
	r := format.Of(format.Card, 0, 0)
	fits(t, r, true, "4111111111111111", "5500005555555559", "4222222222222", "6304000000000000000", "0000000000000")
	fits(t, r, false, "", "4111111111111112", "411111111111111", "42222222222", "000000000000", "63040000000000000000", "00000000000000000000", "4111 1111 1111 1111", "4111-1111-1111-1111", "x111111111111111", "411111111111111x")
}

// P14.1: times.
func TestDate(t *testing.T) {
	r := format.Of(format.Date, 0, 0)
	fits(t, r, true, "20240229235959", "00000101000000", "99991231235959", "20230228000000")
	fits(t, r, false, "", "20230229000000", "20240230000000", "20241301000000", "20240001000000", "20240100000000", "20240101240000", "20240101006000", "20240101000060", "2024010100000", "202401010000000", "2024-01-01T00:0", "2024010100000x")
}

// P14.1: base 64 of just so many bytes.
func TestProof(t *testing.T) {
	for size := range 40 {
		r := format.Of(format.Proof, size, 0)
		for n := range 45 {
			raw := strings.Repeat("\xfb\xef\xff\x00", 12)[:n]
			fits(t, r, n == size, base64.StdEncoding.EncodeToString([]byte(raw)))
			if n > 2 {
				fits(t, r, false, base64.URLEncoding.EncodeToString([]byte(raw)))
			}
			if n%3 != 0 {
				fits(t, r, false, base64.RawStdEncoding.EncodeToString([]byte(raw)))
			}
		}
	}
	r := format.Of(format.Proof, 2, 0)
	fits(t, r, true, "AAA=", "//8=")
	fits(t, r, false, "", "AAB=", "AAA", "AA==", "AAAA", "AAA=\n", " AAA=", "AAA==", "A=A=", "====", "__8=")
	fits(t, format.Of(format.Proof, 4096, 4096), true, base64.StdEncoding.EncodeToString(make([]byte, 4096)))
	fits(t, format.Of(format.Proof, 0, 0), true, "")
	fits(t, format.Of(format.Proof, 0, 0), false, "=", "A", "AA==")
	fits(t, format.Of(format.Proof, 2, 1), true, "AAA=") // Max counts nothing
}

// P14.1: may a rule be? And if it may not, nothing fits.
func TestCheck(t *testing.T) {
	const top, low, high = 4096, math.MinInt, math.MaxInt
	texts := []string{"", "0", "1", "01", "AAA=", noughts, "30313233-3435-4637-b839-616263646566", "4111111111111111", "20240229235959"}
	for _, c := range []struct {
		r    format.Rule
		want api.Errno
	}{
		{format.Rule{}, api.ErrKind},
		{format.Of(0, 1, 1, "0"), api.ErrKind},
		{format.Of(9, 0, 0), api.ErrKind},
		{format.Of(9, -1, -2), api.ErrKind},
		{format.Of(-1, 0, 5), api.ErrKind},
		{format.Of(low, 0, 5), api.ErrKind},
		{format.Of(high, 0, 5), api.ErrKind},
		{format.Of(format.Among, -1, 0), api.ErrRange},
		{format.Of(format.Among, 0, top+1), api.ErrRange},
		{format.Of(format.Among, 0, 0), api.ErrNone},
		{format.Of(format.Among, top, top), api.ErrNone},
		{format.Rule{Kind: format.Among, Texts: []string{}}, api.ErrNone},
		{format.Of(format.Among, 0, 0, ""), api.OK},
		{format.Of(format.Among, 0, 0, "0", "1"), api.OK},
		{format.Of(format.Among, -1, 0, "0"), api.ErrRange},
	} {
		if got := c.r.Check(); got != c.want {
			t.Errorf("%v: Check() = %v, wanted %v", c.r, got, c.want)
		}
		if c.want != api.OK {
			fits(t, c.r, false, texts...)
		}
	}
	for kind := format.Digits; kind <= format.Amount; kind++ {
		spans := kind == format.Digits || kind == format.Text || kind == format.Amount
		ends := []int{low, -4097, -1, 0, 1, 2, 20, top - 1, top, top + 1, high}
		for _, min := range ends {
			for _, max := range ends {
				want := api.OK
				if min < 0 || spans && max < min || min > top || max > top {
					want = api.ErrRange
				}
				r := format.Of(kind, min, max, texts...)
				if got := r.Check(); got != want {
					t.Errorf("Of(%d, %d, %d): Check() = %v, wanted %v", kind, min, max, got, want)
				}
				if want != api.OK {
					fits(t, r, false, texts...)
				}
				if got := r.Longest(); want != api.OK && got != 0 {
					t.Errorf("Of(%d, %d, %d): Longest() = %d, where nothing fits", kind, min, max, got)
				}
			}
		}
	}
}

// P14.1: how many bytes there are at most.
func TestLongest(t *testing.T) {
	for _, c := range []struct {
		r    format.Rule
		want int
	}{
		{format.Of(format.Digits, 0, 0), 0},
		{format.Of(format.Digits, 2, 3), 3},
		{format.Of(format.Digits, 0, 4096), 4096},
		{format.Of(format.Amount, 1, 12), 12},
		{format.Of(format.Amount, 4096, 4096), 4096},
		{format.Of(format.Text, 0, 0), 0},
		{format.Of(format.Text, 1, 40), 160},
		{format.Of(format.Text, 0, 4096), 16384},
		{format.Of(format.ID, 0, 0), 36},
		{format.Of(format.ID, 3, 5), 36},
		{format.Of(format.Among, 0, 0, ""), 0},
		{format.Of(format.Among, 0, 0, "a", "abc", "ab"), 3},
		{format.Of(format.Among, 1, 2, "é€", "a"), 5},
		{format.Of(format.Among, 0, 0, "", strings.Repeat("x", 9999), "b"), 9999},
		{format.Of(format.Card, 0, 0), 19},
		{format.Of(format.Card, 30, 40), 19},
		{format.Of(format.Date, 0, 0), 14},
		{format.Of(format.Proof, 0, 0), 0},
		{format.Of(format.Proof, 1, 0), 4},
		{format.Of(format.Proof, 2, 99), 4},
		{format.Of(format.Proof, 3, 0), 4},
		{format.Of(format.Proof, 4, 0), 8},
		{format.Of(format.Proof, 20, 0), 28},
		{format.Of(format.Proof, 4096, 0), 5464},
		{format.Of(format.Digits, 1, 3, "abcdefgh"), 3},
	} {
		if got := c.r.Longest(); got != c.want {
			t.Errorf("%.80v: Longest() = %d, wanted %d", c.r, got, c.want)
		}
	}
}

// P14.2: a rule, which keeps nothing that is handed in.
func TestOf(t *testing.T) {
	room := []string{"a", "b", "c"}
	r := format.Of(format.Among, 1, 2, room[:2]...)
	if r.Kind != format.Among || r.Min != 1 || r.Max != 2 || !slices.Equal(r.Texts, []string{"a", "b"}) {
		t.Errorf("Of = %v", r)
	}
	room[0] = "x"
	if r.Texts[0] != "a" {
		t.Error("a rule keeps what is handed in")
	}
	r.Texts[1] = "y"
	if _ = append(r.Texts, "z"); room[1] != "b" || room[2] != "c" {
		t.Error("what is handed in is changed")
	}
	for _, kind := range []int{math.MinInt, -1, 0, 9, math.MaxInt} {
		if r := format.Of(kind, -kind, kind-1); r.Kind != kind || r.Min != -kind || r.Max != kind-1 || len(r.Texts) != 0 {
			t.Errorf("Of(%d) = %v", kind, r)
		}
	}
	a, b := format.Of(format.Among, 0, 0, room...), format.Of(format.Among, 0, 0, room...)
	if a.Texts[0] = "other"; b.Texts[0] != "x" {
		t.Error("two rules share memory")
	}
}

// P14.2: the kinds' names.
func TestName(t *testing.T) {
	names := []string{"?", "digits", "text", "id", "among", "card", "date", "proof", "amount", "?", "?"}
	for kind, want := range names {
		if got := format.Name(kind); got != want {
			t.Errorf("Name(%d) = %q, wanted %q", kind, got, want)
		}
	}
	for _, kind := range []int{math.MinInt, -8, -1, 100, 257, math.MaxInt} {
		if got := format.Name(kind); got != "?" {
			t.Errorf("Name(%d) = %q", kind, got)
		}
	}
	seq := format.Kinds()
	for range 2 {
		next := 1
		for kind, name := range seq {
			if kind != next || name != names[kind] {
				t.Errorf("Kinds() goes through %d, %q; wanted %d", kind, name, next)
			}
			next++
		}
		if next != 9 {
			t.Errorf("Kinds() ends ahead of %d", next)
		}
	}
	for stop := 1; stop <= 8; stop++ { // as far as one likes
		count := 0
		for kind := range seq {
			if count++; kind == stop {
				break
			}
		}
		if count != stop {
			t.Errorf("Kinds() left at %d: %d of them", stop, count)
		}
	}
}

// P14.1: a call changes none of a rule's texts.
func TestRuleStays(t *testing.T) {
	texts := []string{"b", "a", "c", "room"}
	r := format.Rule{Kind: format.Among, Texts: texts[:3]}
	r.Fits("c")
	r.Check()
	r.Longest()
	if !slices.Equal(texts, []string{"b", "a", "c", "room"}) {
		t.Errorf("the texts are %q", texts)
	}
}

// fit tells a second time whether a text is as a rule, that may be, says.
func fit(r format.Rule, s string) bool {
	digits, _ := regexp.MatchString(`\A[0-9]*\z`, s)
	counted := func(n int) bool { return r.Min <= n && n <= r.Max }
	switch r.Kind {
	case format.Digits:
		return digits && counted(len(s))
	case format.Amount:
		return digits && counted(len(s)) && (s == "0" || !strings.HasPrefix(s, "0"))
	case format.Text:
		return utf8.ValidString(s) && counted(utf8.RuneCountInString(s)) && !strings.ContainsFunc(s, func(r rune) bool { return r < ' ' || r == 0x7f })
	case format.ID:
		form, _ := regexp.MatchString(`\A[0-9a-f]{8}(-[0-9a-f]{4}){3}-[0-9a-f]{12}\z`, s)
		return form && s != noughts
	case format.Among:
		return slices.Index(r.Texts, s) >= 0
	case format.Card:
		sum := 0
		for i := range len(s) {
			d := int(s[len(s)-1-i]-'0') << (i % 2)
			sum += d/10 + d%10
		}
		return digits && len(s) >= 13 && len(s) <= 19 && sum%10 == 0
	case format.Date:
		_, err := time.Parse("20060102150405", s)
		return digits && len(s) == 14 && err == nil
	}
	raw, err := base64.StdEncoding.Strict().DecodeString(s)
	return err == nil && len(raw) == r.Min && !strings.ContainsAny(s, "\r\n")
}

// P14.3: what fits isn't longer than Longest.
func TestFitsLongest(t *testing.T) {
	r := rand.New(rand.NewPCG(14, 3))
	letters := []string{"0", "1", "9", "a", "f", "A", "/", "=", "-", "é", "€", "\U0001f600", "\x1f", "\x7f", "\xff", " "}
	whole := []string{"", "4111111111111111", "20240229235959", "30313233-3435-4637-b839-616263646566", noughts, "AAA="}
	fitted := [9]int{}
	for range 200000 {
		rule := format.Of(1+r.IntN(8), r.IntN(4), r.IntN(6), "0", "é1", "")
		s := whole[r.IntN(len(whole))]
		if r.IntN(3) > 0 {
			s = ""
			for range r.IntN(8) {
				s += letters[r.IntN(len(letters))]
			}
		} else if s != "" && r.IntN(2) == 0 {
			at := r.IntN(len(s))
			s = s[:at] + letters[r.IntN(len(letters))] + s[at+1:]
		}
		want := rule.Check() == api.OK && fit(rule, s)
		if fits(t, rule, want, s); want {
			fitted[rule.Kind]++
		}
	}
	if slices.Min(fitted[1:]) < 100 {
		t.Errorf("so many fitted: %v", fitted[1:])
	}
}

// P1: every call ends and none panics, whatever is handed in.
func FuzzEnds(f *testing.F) {
	f.Add(1, 2, 3, "07", "a")
	f.Add(2, 1, 2, "\xc3\xa9\xc3\xa9", "")
	f.Add(3, 0, 0, noughts, "x")
	f.Add(4, 0, 0, "a", "a")
	f.Add(5, 0, 0, "4111111111111111", "")
	f.Add(6, 0, 0, "20240229235959", "")
	f.Add(7, 2, 0, "AAA=", "")
	f.Add(8, 1, 3, "01", "")
	f.Add(math.MaxInt, math.MinInt, math.MaxInt, "", "")
	f.Fuzz(func(t *testing.T, kind, min, max int, s, among string) {
		r := format.Of(kind, min, max, among)
		err := r.Check()
		fits(t, r, err == api.OK && fit(r, s), s)
		if long := r.Longest(); long < 0 || err == api.OK && long > 4*4096+len(among) {
			t.Errorf("%v: Longest() = %d", r, long)
		}
		if known := 1 <= kind && kind <= 8; known != (format.Name(kind) != "?") || known == (err == api.ErrKind) {
			t.Errorf("%v: %v, %q", r, err, format.Name(kind))
		}
	})
}
