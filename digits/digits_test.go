package digits_test

import (
	"math"
	"math/big"
	"strings"
	"testing"
	"time"

	"cashier/api"
	"cashier/digits"
)

// others are texts that aren't digits.
func others() []string {
	return []string{
		"", " ", "a", "/", ":", "-1", "+1", "1 ", " 1", "1_0", "0x1", "1.0", "1e3", "12a", "a12",
		"1\x00", "\x00", "\xff", "1\n", "١", "１", "²", "4111111111111111 ", "411111111111111a",
		strings.Repeat("1", 40) + "x", strings.Repeat("9", 5000) + "\x80",
	}
}

// P3.1: digits, and at least one.
func TestIs(t *testing.T) {
	for _, s := range []string{"0", "9", "00", "0123456789", strings.Repeat("7", 5000)} {
		if !digits.Is(s) {
			t.Errorf("Is(%q) is false", s)
		}
	}
	for _, s := range others() {
		if digits.Is(s) {
			t.Errorf("Is(%q) is true", s)
		}
	}
	for b := range 256 {
		want := b >= '0' && b <= '9'
		for _, s := range []string{"", "1"} {
			if got := digits.Is(s + string([]byte{byte(b)})); got != want {
				t.Errorf("Is of %q and byte %d is %v", s, b, got)
			}
		}
	}
}

// P3.1: the number of digits, up to the greatest one.
func TestNumber(t *testing.T) {
	for _, c := range []struct {
		s    string
		want uint64
		err  api.Errno
	}{
		{"0", 0, api.OK},
		{"7", 7, api.OK},
		{"007", 7, api.OK},
		{"0000", 0, api.OK},
		{"1234567890", 1234567890, api.OK},
		{"9999999999999999999", 9999999999999999999, api.OK},
		{"18446744073709551609", math.MaxUint64 - 6, api.OK},
		{"18446744073709551615", math.MaxUint64, api.OK},
		{strings.Repeat("0", 5000) + "18446744073709551615", math.MaxUint64, api.OK},
		{"18446744073709551616", 0, api.ErrRange},
		{"18446744073709551620", 0, api.ErrRange},
		{"20000000000000000000", 0, api.ErrRange},
		{"99999999999999999999", 0, api.ErrRange},
		{"100000000000000000000", 0, api.ErrRange},
		{"184467440737095516160", 0, api.ErrRange},
		{"0018446744073709551616", 0, api.ErrRange},
		{strings.Repeat("9", 5000), 0, api.ErrRange},
		{"18446744073709551616x", 0, api.ErrForm}, // which the chapter names ahead of the range
	} {
		if got, err := digits.Number(c.s); got != c.want || err != c.err {
			t.Errorf("Number(%q) = %d, %v, wanted %d, %v", c.s, got, err, c.want, c.err)
		}
	}
	for _, s := range others() {
		if got, err := digits.Number(s); got != 0 || err != api.ErrForm {
			t.Errorf("Number(%q) = %d, %v", s, got, err)
		}
	}
}

// P3.1: digits of a number, with noughts ahead, 40 of them at most.
func TestText(t *testing.T) {
	for _, c := range []struct {
		n     uint64
		width int
		want  string
	}{
		{7, 3, "007"},
		{0, 0, "0"},
		{0, 1, "0"},
		{0, 2, "00"},
		{0, -1, "0"},
		{123, 2, "123"},
		{123, 3, "123"},
		{123, 4, "0123"},
		{123, 0, "123"},
		{123, math.MinInt, "123"},
		{123, math.MinInt + 3, "123"},
		{1000, 5, "01000"},
		{5, 39, strings.Repeat("0", 38) + "5"},
		{5, 40, strings.Repeat("0", 39) + "5"},
		{5, 41, strings.Repeat("0", 39) + "5"},
		{5, math.MaxInt, strings.Repeat("0", 39) + "5"},
		{math.MaxUint64, 0, "18446744073709551615"},
		{math.MaxUint64, 20, "18446744073709551615"},
		{math.MaxUint64, 21, "018446744073709551615"},
		{math.MaxUint64, 1 << 20, strings.Repeat("0", 20) + "18446744073709551615"},
	} {
		got := digits.Text(c.n, c.width)
		if got != c.want {
			t.Errorf("Text(%d, %d) = %q, wanted %q", c.n, c.width, got, c.want)
		}
		if back, err := digits.Number(got); back != c.n || err != api.OK {
			t.Errorf("Number(%q) = %d, %v", got, back, err)
		}
	}
}

// P3.1: digits are held against each other as the numbers that they are.
func TestCmpOfDigits(t *testing.T) {
	texts := []string{
		"0", "00", "1", "01", "7", "007", "9", "10", "010", "99", "100", "18446744073709551615",
		"18446744073709551616", "018446744073709551616", strings.Repeat("0", 100) + "9",
		strings.Repeat("9", 100), "1" + strings.Repeat("0", 100), strings.Repeat("9", 99) + "8",
	}
	for _, a := range texts {
		for _, b := range texts {
			x, _ := new(big.Int).SetString(a, 10)
			y, _ := new(big.Int).SetString(b, 10)
			if got := digits.Cmp(a, b); got != x.Cmp(y) {
				t.Errorf("Cmp(%q, %q) = %d", a, b, got)
			}
		}
	}
}

// P3.1: of others the length counts first, then the bytes as they are; the
// noughts ahead don't count of them either.
func TestCmpOfOthers(t *testing.T) {
	for _, c := range []struct {
		a, b string
		want int
	}{
		{"", "", 0},
		{"", "a", -1},
		{"", "1", -1},
		{"", "00", 0},
		{"0a", "a", 0},
		{"00b", "0a", 1},
		{"a0", "a", 1},
		{"0", "a", -1},
		{"a", "a", 0},
		{"a", "b", -1},
		{"b", "aa", -1},
		{"ab", "aa", 1},
		{"a", "9", 1},
		{"/", "9", -1},
		{"007", "abc", -1},
		{"123", "abc", -1},
		{"1234", "abc", 1},
		{"-1", "1", 1},
		{"-2", "-1", 1},
		{"1\x00", "1\xff", -1},
		{"\xff", "\x7f", 1},
		{" 7", "7", 1},
		{"70", "7 ", 1},
	} {
		if got := digits.Cmp(c.a, c.b); got != c.want {
			t.Errorf("Cmp(%q, %q) = %d, wanted %d", c.a, c.b, got, c.want)
		}
		if got := digits.Cmp(c.b, c.a); got != -c.want {
			t.Errorf("Cmp(%q, %q) = %d, wanted %d", c.b, c.a, got, -c.want)
		}
	}
}

// cards are right numbers, of the lengths that cards have.
func cards() []string {
	return []string{
		"4111111111111111", "5555555555554444", "378282246310005", "6011111111111117",
		"4222222222222", "30569309025904", "6304000000000000000", "4000000000000000006",
		"0000000000000", "0000000000000000000",
	}
}

// P3.2: the sum by Luhn's weights.
func TestLuhn(t *testing.T) {
	for _, s := range append(cards(), "0", "00", "18", "26", "34", "42", "59", "67", "75", "83", "91", "79927398713") {
		if !digits.Luhn(s) {
			t.Errorf("Luhn(%q) is false", s)
		}
	}
	for _, s := range append(others(), "1", "5", "9", "10", "01", "81", "19", "79927398710", "79927398714", "4111111111111112", "1411111111111111") {
		if digits.Luhn(s) {
			t.Errorf("Luhn(%q) is true", s)
		}
	}
}

// byHand gives Luhn's sum as the chapter tells it.
func byHand(s string) int {
	sum := 0
	for i := range len(s) {
		digit := int(s[i] - '0')
		if fromLast := len(s) - 1 - i; fromLast%2 == 1 {
			digit *= 2
			if digit > 9 {
				digit -= 9
			}
		}
		sum += digit
	}
	return sum
}

// P3.2: all texts of up to four digits, and their check digits.
func TestLuhnByHand(t *testing.T) {
	for width := 1; width <= 4; width++ {
		for n := range uint64(math.Pow10(width)) {
			s := digits.Text(n, width)
			if got, want := digits.Luhn(s), byHand(s)%10 == 0; got != want {
				t.Errorf("Luhn(%q) = %v", s, got)
			}
			check, err := digits.Check(s)
			if whole := s + string([]byte{check}); err != api.OK || !digits.Is(whole) || byHand(whole)%10 != 0 {
				t.Errorf("Check(%q) = %q, %v", s, check, err)
			}
		}
	}
}

// P3.2: the digit behind others that makes them a right number.
func TestCheck(t *testing.T) {
	for _, s := range append(cards(), "00", "18", "91", strings.Repeat("9", 4990)+"0") {
		front, last := s[:len(s)-1], s[len(s)-1]
		if got, err := digits.Check(front); (got == last) != (byHand(s)%10 == 0) || err != api.OK {
			t.Errorf("Check(%q) = %q, %v", front, got, err)
		}
	}
	if got, err := digits.Check("411111111111111"); got != '1' || err != api.OK {
		t.Errorf("Check = %q, %v", got, err)
	}
	for _, s := range others() {
		if got, err := digits.Check(s); got != 0 || err != api.ErrForm {
			t.Errorf("Check(%q) = %q, %v", s, got, err)
		}
	}
}

// P3.2: a card's number, and what is wrong with others, the first thing first.
func TestCard(t *testing.T) {
	for _, s := range cards() {
		if err := digits.Card(s); err != api.OK {
			t.Errorf("Card(%q) = %v", s, err)
		}
	}
	for _, c := range []struct {
		s   string
		err api.Errno
	}{
		{"4111111111111112", api.ErrDigit},
		{"4222222222223", api.ErrDigit},
		{"6304000000000000001", api.ErrDigit},
		{"0", api.ErrShort},
		{"1", api.ErrShort},
		{"000000000000", api.ErrShort},
		{"422222222222", api.ErrShort},
		{"00000000000000000000", api.ErrLong},
		{"63040000000000000001", api.ErrLong},
		{strings.Repeat("4", 5000), api.ErrLong},
		{"422222222222x", api.ErrForm},
		{"4111-1111-1111-1111", api.ErrForm},
	} {
		if err := digits.Card(c.s); err != c.err {
			t.Errorf("Card(%q) = %v, wanted %v", c.s, err, c.err)
		}
	}
	for _, s := range others() {
		if err := digits.Card(s); err != api.ErrForm {
			t.Errorf("Card(%q) = %v", s, err)
		}
	}
}

// P3.3: each month of each year, as the library reckons them.
func TestDays(t *testing.T) {
	for year := range 10000 {
		for month := 1; month <= 12; month++ {
			want := time.Date(year, time.Month(month)+1, 0, 0, 0, 0, 0, time.UTC).Day()
			if got := digits.Days(year, month); got != want {
				t.Errorf("Days(%d, %d) = %d, wanted %d", year, month, got, want)
			}
		}
	}
	for _, c := range []struct{ year, month, want int }{
		{0, 2, 29}, {4, 2, 29}, {100, 2, 28}, {400, 2, 29}, {1900, 2, 28}, {2000, 2, 29}, {2023, 2, 28},
		{2024, 2, 29}, {9999, 2, 28}, {9999, 12, 31}, {0, 1, 31},
		{2000, 0, 0}, {2000, 13, 0}, {2000, -1, 0}, {2000, math.MinInt, 0}, {2000, math.MaxInt, 0},
		{-1, 1, 0}, {-4, 2, 0}, {-400, 2, 0}, {10000, 1, 0}, {10000, 2, 0}, {math.MinInt, 2, 0}, {math.MaxInt, 1, 0},
		{-1, 0, 0}, {10000, 13, 0},
	} {
		if got := digits.Days(c.year, c.month); got != c.want {
			t.Errorf("Days(%d, %d) = %d, wanted %d", c.year, c.month, got, c.want)
		}
	}
}

// P3.3: times, and texts that are none.
func TestDate(t *testing.T) {
	for _, c := range []struct {
		s   string
		err api.Errno
	}{
		{"20240229235959", api.OK},
		{"20000229000000", api.OK},
		{"00000101000000", api.OK},
		{"00000229000000", api.OK},
		{"99991231235959", api.OK},
		{"20230131010203", api.OK},
		{"20230430000000", api.OK},
		{"20230229000000", api.ErrRange},
		{"19000229000000", api.ErrRange},
		{"20240230000000", api.ErrRange},
		{"20230431000000", api.ErrRange},
		{"20230132000000", api.ErrRange},
		{"20230100000000", api.ErrRange},
		{"20230001000000", api.ErrRange},
		{"20231301000000", api.ErrRange},
		{"20239901000000", api.ErrRange},
		{"20230101240000", api.ErrRange},
		{"20230101990000", api.ErrRange},
		{"20230101006000", api.ErrRange},
		{"20230101000060", api.ErrRange},
		{"20230101000099", api.ErrRange},
		{"20231399250000", api.ErrRange},
		{"00000000000000", api.ErrRange},
		{"99999999999999", api.ErrRange},
		{"2024", api.ErrForm},
		{"2024022923595", api.ErrForm},
		{"202402292359590", api.ErrForm},
		{"20230229", api.ErrForm},
		{"2024022923595x", api.ErrForm},
		{"20249999999 99", api.ErrForm},
		{"-0240229235959", api.ErrForm},
		{"+0240229235959", api.ErrForm},
		{"2024-02-29T235", api.ErrForm},
		{"2024022923595\xff", api.ErrForm},
		{strings.Repeat("0", 5000), api.ErrForm},
	} {
		if err := digits.Date(c.s); err != c.err {
			t.Errorf("Date(%q) = %v, wanted %v", c.s, err, c.err)
		}
	}
	for _, s := range others() {
		if err := digits.Date(s); err != api.ErrForm {
			t.Errorf("Date(%q) = %v", s, err)
		}
	}
}

// P3.3: all that two digits tell, at each place.
func TestDateEachPart(t *testing.T) {
	for n := range 100 {
		two := digits.Text(uint64(n), 2)
		for _, c := range []struct {
			what, s string
			ok      bool
		}{
			{"month", "2023" + two + "28000000", n >= 1 && n <= 12},
			{"day of February", "202302" + two + "000000", n >= 1 && n <= 28},
			{"day of a leap February", "202402" + two + "000000", n >= 1 && n <= 29},
			{"day of April", "202304" + two + "000000", n >= 1 && n <= 30},
			{"day of December", "202312" + two + "000000", n >= 1 && n <= 31},
			{"hour", "20230101" + two + "0000", n <= 23},
			{"minute", "2023010100" + two + "00", n <= 59},
			{"second", "202301010000" + two, n <= 59},
			{"century", two + "010101000000", true},
			{"year", "20" + two + "0101000000", true},
		} {
			want := api.OK
			if !c.ok {
				want = api.ErrRange
			}
			if err := digits.Date(c.s); err != want {
				t.Errorf("%s %s: Date(%q) = %v", c.what, two, c.s, err)
			}
		}
	}
}

// P3.4: one digit turned, and it is no card's number any more.
func TestOneDigitTurned(t *testing.T) {
	for _, s := range cards() {
		for i := range len(s) {
			for d := byte('0'); d <= '9'; d++ {
				b := []byte(s)
				b[i] = d
				want := api.ErrDigit
				if s[i] == d {
					want = api.OK
				}
				if err := digits.Card(string(b)); err != want {
					t.Errorf("Card(%q) = %v, wanted %v", b, err, want)
				}
			}
		}
	}
}

// P1: every call ends and none panics, whatever texts and numbers come.
func FuzzEnds(f *testing.F) {
	f.Add("", "0", uint64(0), 0, 0)
	f.Add("4111111111111111", "00", uint64(math.MaxUint64), math.MaxInt, math.MinInt)
	f.Add("20240229235959", "\xff", uint64(1), math.MinInt, math.MaxInt)
	f.Add("99999999999999", "0a", uint64(1), 2023, 2)
	f.Add("18446744073709551616", "18446744073709551615", uint64(10), 41, 12)
	f.Fuzz(func(t *testing.T, a, b string, n uint64, x, y int) {
		if got, err := digits.Number(a); err != api.OK && got != 0 {
			t.Errorf("Number(%q) = %d beside %v", a, got, err)
		}
		if got, err := digits.Number(digits.Text(n, x)); got != n || err != api.OK {
			t.Errorf("Number(Text(%d, %d)) = %d, %v", n, x, got, err)
		}
		if digits.Cmp(a, b) != -digits.Cmp(b, a) || digits.Cmp(a, a) != 0 {
			t.Errorf("Cmp of %q, %q", a, b)
		}
		check, err := digits.Check(a)
		if (err == api.OK) != digits.Is(a) || digits.Luhn(a+string([]byte{check})) != digits.Is(a) {
			t.Errorf("Check(%q) = %q, %v", a, check, err)
		}
		if digits.Card(a) == api.OK && (!digits.Luhn(a) || len(a) < 13 || len(a) > 19) {
			t.Errorf("Card(%q) is OK", a)
		}
		if _, wrong := time.Parse("20060102150405", a); digits.Date(a) == api.OK && wrong != nil {
			t.Errorf("Date(%q) is OK", a)
		}
		if got := digits.Days(x, y); got != 0 && (got < 28 || got > 31) {
			t.Errorf("Days(%d, %d) = %d", x, y, got)
		}
	})
}
