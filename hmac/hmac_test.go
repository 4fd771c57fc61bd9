package hmac_test

import (
	stdhmac "crypto/hmac"
	"crypto/sha256"
	"encoding/binary"
	"encoding/hex"
	"math"
	"slices"
	"strconv"
	"strings"
	"testing"

	"cashier/api"
	"cashier/digits"
	"cashier/hmac"
)

// patterned gives n bytes that aren't all alike.
func patterned(n int) string {
	b := make([]byte, n)
	for i := range b {
		b[i] = byte(i*167 + i>>8*31 + 5)
	}
	return string(b)
}

// wanted gives the sum that the library has of the text, by the key.
func wanted(key, s string) string {
	h := stdhmac.New(sha256.New, []byte(key))
	h.Write([]byte(s))
	return string(h.Sum(nil))
}

// raw gives the bytes that stand in base sixteen.
func raw(t *testing.T, s string) string {
	t.Helper()
	b, err := hex.DecodeString(s)
	if err != nil {
		t.Fatal(err)
	}
	return string(b)
}

// P6.1: the sums of RFC 4231, and those of no key and nothing.
func TestKnown(t *testing.T) {
	for _, c := range []struct{ key, s, want string }{
		{strings.Repeat("\x0b", 20), "Hi There",
			"b0344c61d8db38535ca8afceaf0bf12b881dc200c9833da726e9376c2e32cff7"},
		{"Jefe", "what do ya want for nothing?",
			"5bdcc146bf60754e6a042426089575c75a003f089d2739839dec58b964ec3843"},
		{strings.Repeat("\xaa", 20), strings.Repeat("\xdd", 50),
			"773ea91e36800e46854db8ebd09181a72959098b3ef8c122d9635514ced565fe"},
		{raw(t, "0102030405060708090a0b0c0d0e0f10111213141516171819"), strings.Repeat("\xcd", 50),
			"82558a389a443c0ea4cc819899f2083a85f0faa3e578f8077a2e3ff46729665b"},
		{strings.Repeat("\xaa", 131), "Test Using Larger Than Block-Size Key - Hash Key First",
			"60e431591ee0b67f0d8a26aacbf5b77f8e0bc6213728c5140546040f0ee37f54"},
		{strings.Repeat("\xaa", 131), "This is a test using a larger than block-size key and a larger than block-size data. The key needs to be hashed before being used by the HMAC algorithm.",
			"9b09ffa71b942fcb27635fbcd5b0e944bfdc63644f0713938a7f51535c3a35e2"},
		{"", "", "b613679a0814d9ec772f95d778c35fc5ff1697c493715653c6c712144292c5ad"},
	} {
		want := raw(t, c.want)
		if got := hmac.Sum(c.key, c.s); got != want {
			t.Errorf("Sum(%x, %q) = %x, wanted %s", c.key, c.s, got, c.want)
		}
	}
}

// P6.1: keys and texts of sizes about the blocks' ends.
func TestSizes(t *testing.T) {
	texts := []int{0, 1, 31, 32, 55, 56, 63, 64, 65, 119, 120, 128, 4096}
	for n := range 140 {
		for _, key := range []string{patterned(n), strings.Repeat("\x00", n), strings.Repeat("\xff", n)} {
			for _, size := range texts {
				s := patterned(size)
				if got := hmac.Sum(key, s); got != wanted(key, s) {
					t.Errorf("a key of %d bytes, a text of %d: %x", n, size, got)
				}
			}
		}
	}
	if key := patterned(5000); hmac.Sum(key, "x") != wanted(key, "x") {
		t.Error("a key of 5000 bytes")
	}
}

// P6.1: noughts behind a key that fits into a block count for nothing, by
// RFC 2104; a key of 65 bytes is another thing.
func TestKeyFilled(t *testing.T) {
	for n := range 65 {
		key := "k" + strings.Repeat("\x00", n)
		if same := hmac.Same(hmac.Sum(key, "x"), hmac.Sum("k", "x")); same != (len(key) <= 64) {
			t.Errorf("a key of %d bytes: %v", len(key), same)
		}
	}
}

// P6.1: the sum of parts is that of what they make together.
func TestParts(t *testing.T) {
	for _, key := range []string{"", "k", patterned(64), patterned(65)} {
		for _, n := range []int{0, 1, 63, 64, 65, 130} {
			s := patterned(n)
			want := wanted(key, s)
			for cut := range n + 1 {
				if got := hmac.Sum(key, s[:cut], "", s[cut:]); got != want {
					t.Errorf("a key of %d bytes, %d bytes cut at %d: %x", len(key), n, cut, got)
				}
				if got := hmac.Short(key, 20, s[:cut], "", s[cut:]); got != want[:20] {
					t.Errorf("a key of %d bytes, %d bytes cut at %d: the first 20 are %x", len(key), n, cut, got)
				}
			}
		}
		if got := hmac.Sum(key); got != wanted(key, "") {
			t.Errorf("a key of %d bytes, no parts: %x", len(key), got)
		}
	}
}

// What is handed in isn't changed, spare room included.
func TestPartsStay(t *testing.T) {
	all := []string{"a", "b", "spare", "spare"}
	hmac.Sum("k", all[:2]...)
	hmac.Short("k", 5, all[:2]...)
	if !slices.Equal(all, []string{"a", "b", "spare", "spare"}) {
		t.Errorf("the parts are %q now", all)
	}
}

// P6.1: the first bytes, none below 1, at most all.
func TestShort(t *testing.T) {
	whole := wanted("key", "text")
	for n := -2; n <= 40; n++ {
		if got := hmac.Short("key", n, "te", "xt"); got != whole[:min(max(n, 0), 32)] {
			t.Errorf("Short of %d bytes = %x", n, got)
		}
	}
	if got := hmac.Short("key", math.MinInt, "text"); got != "" {
		t.Errorf("Short of the least int = %x", got)
	}
	if got := hmac.Short("key", math.MaxInt, "text"); got != whole {
		t.Errorf("Short of the greatest int = %x", got)
	}
	if got := hmac.Short("", 3); got != wanted("", "")[:3] {
		t.Errorf("Short of nothing = %x", got)
	}
}

// P6.1: two texts are the same, if all their bytes are.
func TestSame(t *testing.T) {
	l := []string{"", "\x00", "\x00\x00", "a", "b", "aa", "ab", "ba", "a\x00", "\xff", "\x7f", patterned(32), patterned(33)}
	for i, a := range l {
		for j, b := range l {
			if got := hmac.Same(a, strings.Clone(b)); got != (i == j) {
				t.Errorf("Same(%q, %q) = %v", a, b, got)
			}
		}
	}
	s := patterned(40)
	for bit := range 8 * len(s) {
		b := []byte(s)
		b[bit/8] ^= 1 << (bit % 8)
		if hmac.Same(s, string(b)) || hmac.Same(string(b), s) {
			t.Errorf("bit %d isn't looked at", bit)
		}
	}
	// Two bytes whose differences are alike, and would take each other away.
	if hmac.Same("ab", "ba") || hmac.Same("aabb", "bbaa") {
		t.Error("bytes that changed places are the same")
	}
}

// P6.2: RFC 4226's appendix D.
func TestTruncateKnown(t *testing.T) {
	for _, c := range []struct{ sum, want string }{
		{"cc93cf18508d94934c64b65d8ba7667fb7cde4b0", "1284755224"},
		{"75a48a19d4cbe100644e8ac1397eea747a2d33ab", "1094287082"},
		{"0bacb7fa082fef30782211938bc1c5e70416ff44", "0137359152"},
		{"66c28227d03a2d5529262ff016a1e6ef76557ece", "1726969429"},
		{"a904c900a64b35909874b33e61c5938a8e15ed1c", "1640338314"},
		{"a37e783d7b7233c083d4f62926c7a25f238d0316", "0868254676"},
		{"bc9cd28561042c83f219324d3c607256c03272ae", "1918287922"},
		{"a4fb960c0bc06e1eabb804e5b397cdc4b45596fa", "0082162583"},
		{"1b3c89f65e6c9e883012052823443f048b4332db", "0673399871"},
		{"1637409809a679dc698207310c8c7fc07290d9e5", "0645520489"},
	} {
		for width := 1; width <= 9; width++ {
			got, err := hmac.Truncate(raw(t, c.sum), width)
			if got != c.want[len(c.want)-width:] || err != api.OK {
				t.Errorf("Truncate(%s, %d) = %q, %v", c.sum, width, got, err)
			}
		}
	}
}

// P6.2: from each place on, of sums of sizes from 20 on; only the last byte's
// lower half tells the place, and the four bytes' highest bit is none.
func TestTruncatePlaces(t *testing.T) {
	for _, size := range []int{20, 21, 32, 33, 300} {
		for last := range 256 {
			for _, s := range []string{patterned(size), strings.Repeat("\xff", size), strings.Repeat("\x80", size), strings.Repeat("\x00", size)} {
				sum := s[:size-1] + string([]byte{byte(last)})
				n := binary.BigEndian.Uint32([]byte(sum[last%16:])) % (1 << 31)
				want := "000000000" + strconv.Itoa(int(n))
				for width := 1; width <= 9; width++ {
					got, err := hmac.Truncate(sum, width)
					if got != want[len(want)-width:] || err != api.OK {
						t.Errorf("Truncate(%x, %d) = %q, %v", sum, width, got, err)
					}
				}
			}
		}
	}
}

// P6.2: what is refused, and by what first.
func TestTruncateRefused(t *testing.T) {
	whole := patterned(32)
	for _, c := range []struct {
		sum   string
		width int
		err   api.Errno
	}{
		{whole, 0, api.ErrArg},
		{whole, -1, api.ErrArg},
		{whole, 10, api.ErrArg},
		{whole, math.MinInt, api.ErrArg},
		{whole, math.MaxInt, api.ErrArg},
		{"", 0, api.ErrArg},
		{"x", 10, api.ErrArg},
		{"", 6, api.ErrShort},
		{"x", 1, api.ErrShort},
		{whole[:19], 9, api.ErrShort},
		{strings.Repeat("\x00", 19), 6, api.ErrShort},
		{whole[:20], 9, api.OK},
		{whole[:20], 1, api.OK},
	} {
		got, err := hmac.Truncate(c.sum, c.width)
		if err != c.err || (got == "") != (err != api.OK) {
			t.Errorf("Truncate of %d bytes to %d = %q, %v, wanted %v", len(c.sum), c.width, got, err, c.err)
		}
	}
}

// P6.2: RFC 6238's codes by SHA-256, of which the last six digits count.
func TestCodeKnown(t *testing.T) {
	for _, c := range []struct {
		counter uint64
		want    string
	}{
		{0x1, "46119246"}, {0x23523ec, "68084774"}, {0x23523ed, "67062674"},
		{0x273ef07, "91819424"}, {0x3f940aa, "90698825"}, {0x27bc86aa, "77737706"},
	} {
		if got := hmac.Code("12345678901234567890123456789012", c.counter); got != c.want[2:] {
			t.Errorf("Code of %x = %q, wanted %q", c.counter, got, c.want[2:])
		}
	}
}

// P6.2, P6.3: a code is Truncate's of the counter's bytes, and has six digits.
func TestCode(t *testing.T) {
	counters := []uint64{255, 256, 1 << 32, 1<<32 + 1, 1<<63 - 1, 1 << 63, math.MaxUint64 - 1, math.MaxUint64}
	for n := range uint64(2000) {
		counters = append(counters, n)
	}
	noughts := 0
	for _, key := range []string{"", "k", patterned(64), patterned(100)} {
		for _, counter := range counters {
			got := hmac.Code(key, counter)
			sum := wanted(key, string(binary.BigEndian.AppendUint64(nil, counter)))
			n := binary.BigEndian.Uint32([]byte(sum[sum[31]%16:])) % (1 << 31)
			if number, _ := digits.Number(got); number != uint64(n%1000000) {
				t.Errorf("Code of %d = %q, wanted that of %d", counter, got, n)
			}
			if len(got) != 6 || !digits.Is(got) {
				t.Errorf("Code of %d = %q", counter, got)
			}
			if strings.HasPrefix(got, "0") {
				noughts++
			}
		}
	}
	if noughts == 0 {
		t.Error("no code begins with a nought")
	}
}

// P1: every call ends and none panics, whatever bytes and numbers come.
func FuzzEnds(f *testing.F) {
	f.Add("", "", "", 0, uint64(0))
	f.Add("k", "a", "b", math.MinInt, uint64(math.MaxUint64))
	f.Add(strings.Repeat("\xff", 64), strings.Repeat("\xff", 20), "", math.MaxInt, uint64(1))
	f.Add(strings.Repeat("\x00", 65), strings.Repeat("\x80", 19), "\x0f", 9, uint64(1<<63))
	f.Fuzz(func(t *testing.T, key, a, b string, n int, counter uint64) {
		sum := hmac.Sum(key, a, b)
		if sum != wanted(key, a+b) {
			t.Errorf("Sum(%x, %x, %x) = %x", key, a, b, sum)
		}
		if got := hmac.Short(key, n, a, b); got != sum[:min(max(n, 0), 32)] {
			t.Errorf("Short(%x, %d, %x, %x) = %x", key, n, a, b, got)
		}
		if got := hmac.Same(a, b); got != (a == b) {
			t.Errorf("Same(%x, %x) = %v", a, b, got)
		}
		want := api.OK
		switch {
		case n < 1 || n > 9:
			want = api.ErrArg
		case len(a) < 20:
			want = api.ErrShort
		}
		got, err := hmac.Truncate(a, n)
		if err != want || err == api.OK && (len(got) != n || !digits.Is(got)) || err != api.OK && got != "" {
			t.Errorf("Truncate(%x, %d) = %q, %v", a, n, got, err)
		}
		if got := hmac.Code(key, counter); len(got) != 6 || !digits.Is(got) {
			t.Errorf("Code(%x, %d) = %q", key, counter, got)
		}
	})
}
