package octet_test

import (
	"hash/crc32"
	"math"
	"math/big"
	"slices"
	"strings"
	"testing"

	"cashier/api"
	"cashier/octet"
)

// patterned gives n bytes that aren't all alike.
func patterned(n int) string {
	b := make([]byte, n)
	for i := range b {
		b[i] = byte(i*167 + i>>8*31 + 5)
	}
	return string(b)
}

// P1.1: the bytes of a number.
func TestPut(t *testing.T) {
	for _, c := range []struct {
		n    uint64
		size int
		want string
	}{
		{258, 3, "\x00\x01\x02"},
		{0, 1, "\x00"},
		{255, 1, "\xff"},
		{256, 1, "\x00"},
		{0x0102030405060708, 8, "\x01\x02\x03\x04\x05\x06\x07\x08"},
		{0x0102030405060708, 7, "\x02\x03\x04\x05\x06\x07\x08"},
		{0x0102030405060708, 4, "\x05\x06\x07\x08"},
		{0x0102030405060708, 9, "\x01\x02\x03\x04\x05\x06\x07\x08"},
		{1, math.MaxInt, "\x00\x00\x00\x00\x00\x00\x00\x01"},
		{math.MaxUint64, 8, "\xff\xff\xff\xff\xff\xff\xff\xff"},
		{5, 0, ""},
		{5, -1, ""},
		{5, math.MinInt, ""},
	} {
		if got := octet.Put(c.n, c.size); got != c.want {
			t.Errorf("Put(%d, %d) = %x, wanted %x", c.n, c.size, got, c.want)
		}
	}
}

// P1.1: the number of bytes.
func TestGet(t *testing.T) {
	for _, c := range []struct {
		s    string
		want uint64
		err  api.Errno
	}{
		{"\x00", 0, api.OK},
		{"\x01\x02", 258, api.OK},
		{"\x00\x00\x00\x07", 7, api.OK},
		{"\xff", 255, api.OK},
		{"\x01\x02\x03\x04\x05\x06\x07\x08", 0x0102030405060708, api.OK},
		{strings.Repeat("\xff", 8), math.MaxUint64, api.OK},
		{"", 0, api.ErrShort},
		{strings.Repeat("\x01", 9), 0, api.ErrLong},
		{strings.Repeat("\x00", 9), 0, api.ErrLong},
		{strings.Repeat("\x01", 1000), 0, api.ErrLong},
	} {
		if got, err := octet.Get(c.s); got != c.want || err != c.err {
			t.Errorf("Get(%x) = %d, %v, wanted %d, %v", c.s, got, err, c.want, c.err)
		}
	}
}

// P1.1: what is put comes back, modulo 2 to the 8 times size.
func TestPutGet(t *testing.T) {
	for size := 1; size <= 8; size++ {
		for shift := range 64 {
			n := uint64(0xd1b54a32d192ed03) >> shift
			got, err := octet.Get(octet.Put(n, size))
			want := n << (64 - 8*size) >> (64 - 8*size)
			if got != want || err != api.OK {
				t.Errorf("Get(Put(%d, %d)) = %d, %v, wanted %d", n, size, got, err, want)
			}
		}
	}
}

// P1.1: sums and products end at the greatest number.
func TestAddMul(t *testing.T) {
	ends := []uint64{
		0, 1, 2, 3, 5, 255, 1<<32 - 1, 1 << 32, 1<<32 + 1, 6148914691236517205,
		6148914691236517206, 1<<63 - 1, 1 << 63, 1<<63 + 1, math.MaxUint64 - 1, math.MaxUint64,
	}
	most := new(big.Int).SetUint64(math.MaxUint64)
	capped := func(n *big.Int) uint64 {
		if n.Cmp(most) > 0 {
			return math.MaxUint64
		}
		return n.Uint64()
	}
	for _, a := range ends {
		for _, b := range ends {
			x, y := new(big.Int).SetUint64(a), new(big.Int).SetUint64(b)
			if got, want := octet.Add(a, b), capped(new(big.Int).Add(x, y)); got != want {
				t.Errorf("Add(%d, %d) = %d, wanted %d", a, b, got, want)
			}
			if got, want := octet.Mul(a, b), capped(new(big.Int).Mul(x, y)); got != want {
				t.Errorf("Mul(%d, %d) = %d, wanted %d", a, b, got, want)
			}
		}
	}
}

// P1.2: the sum of parts is that of what they make together.
func TestCRC(t *testing.T) {
	for _, parts := range [][]string{
		{"123456789"}, {"12345", "6789"}, {"", "1", "", "23456789", ""},
	} {
		if got := octet.CRC(parts...); got != 0xcbf43926 {
			t.Errorf("CRC(%q) = %x", parts, got)
		}
	}
	if a, b, c := octet.CRC(), octet.CRC(""), octet.CRC("", ""); a != 0 || b != 0 || c != 0 {
		t.Errorf("CRC of nothing: %x, %x, %x", a, b, c)
	}
	for _, n := range []int{1, 2, 3, 4, 5, 127, 128, 129, 256, 4096, 10000} {
		s := patterned(n)
		want := crc32.ChecksumIEEE([]byte(s))
		if got := octet.CRC(s); got != want {
			t.Errorf("CRC of %d bytes = %x, wanted %x", n, got, want)
		}
		for _, cut := range []int{0, 1, n / 2, n} {
			if got := octet.CRC(s[:cut], s[cut:]); got != want {
				t.Errorf("CRC of %d bytes cut at %d = %x, wanted %x", n, cut, got, want)
			}
		}
	}
	for i := range 256 {
		s := string([]byte{byte(i)})
		if got, want := octet.CRC(s), crc32.ChecksumIEEE([]byte(s)); got != want {
			t.Errorf("CRC of byte %d = %x, wanted %x", i, got, want)
		}
	}
}

// P1.2: the table is that of IEEE's polynomial, and a new one each time.
func TestTable(t *testing.T) {
	want := [256]uint32(*crc32.IEEETable)
	table := octet.Table()
	if table != want {
		t.Errorf("Table() = %x", table)
	}
	table[1]++
	if octet.Table() != want {
		t.Error("Table() hangs on what was done to an answer")
	}
}

// P1.3: a text behind its length.
func TestCounted(t *testing.T) {
	for _, c := range []struct{ s, want string }{
		{"", "\x00\x00\x00\x00"},
		{"ab", "\x00\x00\x00\x02ab"},
		{"\x00\xff", "\x00\x00\x00\x02\x00\xff"},
		{strings.Repeat("x", 258), "\x00\x00\x01\x02" + strings.Repeat("x", 258)},
		{strings.Repeat("y", 1<<16), "\x00\x01\x00\x00" + strings.Repeat("y", 1<<16)},
	} {
		if got := octet.Counted(c.s); got != c.want {
			t.Errorf("Counted of %d bytes begins with %x", len(c.s), got[:min(len(got), 8)])
		}
	}
}

// P1.3: the first counted text and the rest.
func TestCut(t *testing.T) {
	long := patterned(1000)
	for _, c := range []struct {
		s, part, rest string
		err           api.Errno
	}{
		{octet.Counted("ab"), "ab", "", api.OK},
		{octet.Counted("ab") + "rest", "ab", "rest", api.OK},
		{octet.Counted(""), "", "", api.OK},
		{octet.Counted("") + "\x00", "", "\x00", api.OK},
		{octet.Counted(long) + long, long, long, api.OK},
		{"", "", "", api.ErrShort},
		{"\x00", "", "", api.ErrShort},
		{"\x00\x00\x00", "", "", api.ErrShort},
		{"\x00\x00\x00\x01", "", "", api.ErrShort},
		{"\x00\x00\x00\x03ab", "", "", api.ErrShort},
		{"\x01\x00\x00\x02ab", "", "", api.ErrShort},
		{"\x80\x00\x00\x00ab", "", "", api.ErrShort},
		{"\xff\xff\xff\xffab", "", "", api.ErrShort},
	} {
		part, rest, err := octet.Cut(c.s)
		if part != c.part || rest != c.rest || err != c.err {
			t.Errorf("Cut(%q) = %q, %q, %v", c.s, part, rest, err)
		}
	}
}

// P1.3: all whole counted texts, as often and as far as one likes.
func TestParts(t *testing.T) {
	three := octet.Counted("ab") + octet.Counted("") + octet.Counted("\x00\x00\x00\x09")
	all := []string{"ab", "", "\x00\x00\x00\x09"}
	for _, c := range []struct {
		s    string
		want []string
	}{
		{"", nil},
		{"x", nil},
		{"\x00\x00\x00\x02x", nil},
		{three, all},
		{three + "\x00", all},
		{three + "\x00\x00\x00\x02x", all},
		{three + "\xff\xff\xff\xff" + three, all},
		{octet.Counted("") + octet.Counted(""), []string{"", ""}},
	} {
		parts := octet.Parts(c.s)
		for range 2 {
			if got := slices.Collect(parts); !slices.Equal(got, c.want) {
				t.Errorf("Parts(%q) = %q, wanted %q", c.s, got, c.want)
			}
		}
	}
	parts := octet.Parts(three)
	for stop := 1; stop <= len(all); stop++ {
		var got []string
		for part := range parts {
			got = append(got, part)
			if len(got) == stop {
				break
			}
		}
		if !slices.Equal(got, all[:stop]) {
			t.Errorf("left behind %d: %q", stop, got)
		}
	}
}

// P1.4: one other bit, another sum.
func TestCRCTellsABit(t *testing.T) {
	for _, n := range []int{1, 2, 3, 4, 5, 16, 128, 300} {
		for _, s := range []string{patterned(n), strings.Repeat("\x00", n), strings.Repeat("\xff", n)} {
			sum := octet.CRC(s)
			for bit := range 8 * n {
				b := []byte(s)
				b[bit/8] ^= 1 << (bit % 8)
				if octet.CRC(string(b)) == sum {
					t.Errorf("%d bytes, bit %d: the same sum", n, bit)
				}
			}
		}
	}
}

// P1: every call ends and none panics, whatever bytes and numbers come.
func FuzzEnds(f *testing.F) {
	f.Add("", uint64(0), uint64(0), 0)
	f.Add("\xff\xff\xff\xff", uint64(math.MaxUint64), uint64(math.MaxUint64), math.MaxInt)
	f.Add("\x80\x00\x00\x00\x00\x00\x00\x00\x00", uint64(1), uint64(1<<63), math.MinInt)
	f.Add("\x00\x00\x00\x01a\x00\x00\x00\x00\x00\x00\x00", uint64(2), uint64(3), -1)
	f.Fuzz(func(t *testing.T, s string, a, b uint64, size int) {
		if got := len(octet.Put(a, size)); got != min(max(size, 0), 8) {
			t.Errorf("Put(%d, %d) has %d bytes", a, size, got)
		}
		if n, err := octet.Get(s); err != api.OK && n != 0 {
			t.Errorf("Get(%x) = %d beside %v", s, n, err)
		}
		octet.Add(a, b)
		octet.Mul(a, b)
		if octet.CRC(s) != crc32.ChecksumIEEE([]byte(s)) {
			t.Errorf("CRC(%x)", s)
		}
		if part, rest, err := octet.Cut(octet.Counted(s) + s); part != s || rest != s || err != api.OK {
			t.Errorf("Cut(Counted(%x)): %x, %x, %v", s, part, rest, err)
		}
		read := 0
		for part := range octet.Parts(s) {
			read += len(octet.Counted(part))
		}
		if _, _, err := octet.Cut(s[read:]); err != api.ErrShort {
			t.Errorf("Parts(%x) ends at %d, ahead of a whole one", s, read)
		}
	})
}
