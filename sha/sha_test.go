package sha_test

import (
	"crypto/sha256"
	"encoding/binary"
	"encoding/hex"
	"math/big"
	"slices"
	"strings"
	"testing"

	"cashier/api"
	"cashier/sha"
)

// patterned gives n bytes that aren't all alike.
func patterned(n int) string {
	b := make([]byte, n)
	for i := range b {
		b[i] = byte(i*167 + i>>8*31 + 5)
	}
	return string(b)
}

// wanted gives the sum that the library has of the text.
func wanted(s string) api.Sum { return api.Sum(sha256.Sum256([]byte(s))) }

// added gives the Hash of the parts, one behind the other.
func added(parts ...string) sha.Hash {
	h := sha.New()
	for _, part := range parts {
		h = h.Add(part)
	}
	return h
}

// agrees tells whether all calls have the sum for the parts.
func agrees(t *testing.T, want api.Sum, parts ...string) {
	t.Helper()
	if got := sha.Sum(parts...); got != want {
		t.Errorf("Sum(%.40q) = %x, wanted %x", parts, got, want)
	}
	if got := sha.Text(parts...); got != string(want[:]) {
		t.Errorf("Text(%.40q) = %x, wanted %x", parts, got, want)
	}
	if got := added(parts...).Sum(); got != want {
		t.Errorf("Hash of %.40q = %x, wanted %x", parts, got, want)
	}
}

// P5.1: the sums that are known of old.
func TestKnown(t *testing.T) {
	for _, c := range []struct {
		parts []string
		want  string
	}{
		{nil, "e3b0c44298fc1c149afbf4c8996fb92427ae41e4649b934ca495991b7852b855"},
		{[]string{""}, "e3b0c44298fc1c149afbf4c8996fb92427ae41e4649b934ca495991b7852b855"},
		{[]string{"", "", ""}, "e3b0c44298fc1c149afbf4c8996fb92427ae41e4649b934ca495991b7852b855"},
		{[]string{"abc"}, "ba7816bf8f01cfea414140de5dae2223b00361a396177a9cb410ff61f20015ad"},
		{[]string{"", "a", "", "bc", ""}, "ba7816bf8f01cfea414140de5dae2223b00361a396177a9cb410ff61f20015ad"},
		{[]string{"abcdbcdecdefdefgefghfghighijhijkijkljklmklmnlmnomnopnopq"},
			"248d6a61d20638b8e5c026930c3e6039a33ce45964ff2167f6ecedd419db06c1"},
		{[]string{"abcdefghbcdefghicdefghijdefghijkefghijklfghijklmghijklmn", "hijklmnoijklmnopjklmnopqklmnopqrlmnopqrsmnopqrstnopqrstu"},
			"cf5b16a778af8380036ce59e7b0492370b249b11e8f07a51afac45037afee9d1"},
		{[]string{strings.Repeat("a", 1000000)},
			"cdc76e5c9914fb9281a1c7e284d73e67f1809a48a497200e046d39ccc7112cd0"},
	} {
		b, err := hex.DecodeString(c.want)
		if err != nil {
			t.Fatal(err)
		}
		agrees(t, api.Sum(b), c.parts...)
	}
}

// P5.1: texts of each size up to several blocks, of bytes of all kinds.
func TestSizes(t *testing.T) {
	for n := range 400 {
		for _, s := range []string{patterned(n), strings.Repeat("\x00", n), strings.Repeat("\xff", n)} {
			agrees(t, wanted(s), s)
		}
	}
	for _, n := range []int{511, 512, 513, 4095, 4096, 4097, 8191, 8192, 8193, 100000, 1<<21 - 1, 1 << 21} {
		s := patterned(n)
		agrees(t, wanted(s), s)
	}
}

// P5.1: one other bit, another sum.
func TestTellsABit(t *testing.T) {
	for _, n := range []int{1, 55, 56, 64, 65} {
		s := patterned(n)
		seen := map[api.Sum]int{sha.Sum(s): -1}
		for bit := range 8 * n {
			b := []byte(s)
			b[bit/8] ^= 1 << (bit % 8)
			sum := sha.Sum(string(b))
			if other, there := seen[sum]; there {
				t.Errorf("%d bytes: the bits %d and %d give the same sum", n, bit, other)
			}
			seen[sum] = bit
		}
	}
}

// P5.1: what is added to a Hash, or asked of it, leaves it as it was.
func TestHashStays(t *testing.T) {
	for _, n := range []int{0, 1, 55, 56, 63, 64, 65, 127, 128, 200} {
		s := patterned(n)
		h := sha.New().Add(s)
		for _, more := range []string{"", "a", "bc", patterned(64), strings.Repeat("x", 63), patterned(300)} {
			if got := h.Add(more).Sum(); got != wanted(s+more) {
				t.Errorf("%d bytes and %d more: %x", n, len(more), got)
			}
			if got := h.Add(more).Add(more).Sum(); got != wanted(s+more+more) {
				t.Errorf("%d bytes and twice %d more: %x", n, len(more), got)
			}
			for range 2 {
				if got := h.Sum(); got != wanted(s) {
					t.Errorf("%d bytes: %x behind %d more", n, got, len(more))
				}
			}
		}
	}
}

// P5.1: the zero Hash is New's.
func TestZeroHash(t *testing.T) {
	var zero sha.Hash
	if zero != sha.New() || zero != zero.Add("") {
		t.Error("the zero Hash isn't New's, or another one with nothing added")
	}
	for _, n := range []int{0, 1, 55, 56, 63, 64, 65, 200} {
		s := patterned(n)
		if got := zero.Add(s).Sum(); got != wanted(s) {
			t.Errorf("the zero Hash and %d bytes: %x", n, got)
		}
	}
	if got := zero.Sum(); got != wanted("") {
		t.Errorf("the zero Hash: %x", got)
	}
}

// padded gives a text's blocks in one, by FIPS 180-4's section 5.1.1.
func padded(s string) string {
	b := append([]byte(s), 128)
	for len(b)%64 != 56 {
		b = append(b, 0)
	}
	return string(binary.BigEndian.AppendUint64(b, 8*uint64(len(s))))
}

// P5.2: the text, and what fills its last block up.
func TestBlocks(t *testing.T) {
	sizes := []int{4095, 4096, 8191, 8192, 1<<21 - 1, 1 << 21, 1<<21 + 56}
	for n := range 300 {
		sizes = append(sizes, n)
	}
	for _, n := range sizes {
		s := patterned(n)
		blocks := sha.Blocks(s)
		for range 2 {
			var all strings.Builder
			for block := range blocks {
				if len(block) != 64 {
					t.Errorf("%d bytes: a block has %d", n, len(block))
				}
				all.WriteString(block)
			}
			if all.String() != padded(s) {
				t.Errorf("%d bytes: the blocks end with %x", n, all.String()[max(0, all.Len()-64):])
			}
		}
	}
}

// P5.2: the blocks of some texts, written out.
func TestBlocksWritten(t *testing.T) {
	x := func(n int) string { return strings.Repeat("x", n) }
	noughts := func(n int) string { return strings.Repeat("\x00", n) }
	for _, c := range []struct {
		s    string
		want []string
	}{
		{"", []string{"\x80" + noughts(63)}},
		{"abc", []string{"abc\x80" + noughts(59) + "\x18"}},
		{x(55), []string{x(55) + "\x80" + noughts(6) + "\x01\xb8"}},
		{x(56), []string{x(56) + "\x80" + noughts(7), noughts(62) + "\x01\xc0"}},
		{x(63), []string{x(63) + "\x80", noughts(62) + "\x01\xf8"}},
		{x(64), []string{x(64), "\x80" + noughts(61) + "\x02\x00"}},
		{x(65), []string{x(64), "x\x80" + noughts(60) + "\x02\x08"}},
		{x(120), []string{x(64), x(56) + "\x80" + noughts(7), noughts(62) + "\x03\xc0"}},
	} {
		if got := slices.Collect(sha.Blocks(c.s)); !slices.Equal(got, c.want) {
			t.Errorf("Blocks of %d bytes = %x", len(c.s), got)
		}
	}
}

// P5.2: as far as one likes, and from the start again.
func TestBlocksLeft(t *testing.T) {
	for _, n := range []int{0, 55, 56, 64, 100, 128, 184, 190} {
		blocks := sha.Blocks(patterned(n))
		all := slices.Collect(blocks)
		for stop := 1; stop <= len(all); stop++ {
			var got []string
			for block := range blocks {
				got = append(got, block)
				if len(got) == stop {
					break
				}
			}
			if !slices.Equal(got, all[:stop]) {
				t.Errorf("%d bytes, left behind %d: %x", n, stop, got)
			}
		}
	}
}

// P5.2: the first bits behind the point of each prime's cube root.
func TestKeys(t *testing.T) {
	keys := sha.Keys()
	for _, c := range []struct {
		at   int
		want uint32
	}{
		{0, 0x428a2f98}, {1, 0x71374491}, {2, 0xb5c0fbcf}, {3, 0xe9b5dba5}, {15, 0xc19bf174}, {16, 0xe49b69c1},
		{31, 0x14292967}, {32, 0x27b70a85}, {47, 0x106aa070}, {61, 0xa4506ceb}, {62, 0xbef9a3f7}, {63, 0xc67178f2},
	} {
		if keys[c.at] != c.want {
			t.Errorf("Keys()[%d] = %x, wanted %x", c.at, keys[c.at], c.want)
		}
	}
	at := 0
	for n := int64(2); at < len(keys); n++ {
		if !big.NewInt(n).ProbablyPrime(0) {
			continue
		}
		// The greatest key with which the root isn't too great.
		root := new(big.Int).Lsh(rootBelow(n), 32)
		root.Add(root, big.NewInt(int64(keys[at])))
		next := new(big.Int).Add(root, big.NewInt(1))
		scaled := new(big.Int).Lsh(big.NewInt(n), 96)
		if cube(root).Cmp(scaled) > 0 || cube(next).Cmp(scaled) <= 0 {
			t.Errorf("Keys()[%d] = %x isn't of the root of %d", at, keys[at], n)
		}
		at++
	}
	keys[0]++
	if sha.Keys()[0] != 0x428a2f98 {
		t.Error("Keys() hangs on what was done to an answer")
	}
}

func cube(n *big.Int) *big.Int { return new(big.Int).Exp(n, big.NewInt(3), nil) }

// rootBelow gives the cube root's whole part.
func rootBelow(n int64) *big.Int {
	root := int64(0)
	for (root+1)*(root+1)*(root+1) <= n {
		root++
	}
	return big.NewInt(root)
}

// P5.3: each cut in two, and in three near the blocks' ends.
func TestCuts(t *testing.T) {
	for _, n := range []int{0, 1, 2, 55, 56, 63, 64, 65, 119, 120, 127, 128, 129, 200} {
		s := patterned(n)
		want, whole := wanted(s), sha.New().Add(s)
		for cut := range n + 1 {
			agrees(t, want, s[:cut], s[cut:])
			if added(s[:cut], s[cut:]) != whole {
				t.Errorf("%d bytes cut at %d: another Hash", n, cut)
			}
		}
		for _, first := range []int{0, 1, 63, 64, 65} {
			for _, second := range []int{0, 1, 63, 64, 65, 128} {
				if first <= second && second <= n {
					agrees(t, want, s[:first], s[first:second], s[second:])
				}
			}
		}
	}
}

// P5.3: parts of one size, with empty ones between.
func TestPieces(t *testing.T) {
	s := patterned(700)
	for size := 1; size <= 130; size++ {
		var parts []string
		for piece := range slices.Chunk([]byte(s), size) {
			parts = append(parts, string(piece), "")
		}
		agrees(t, wanted(s), parts...)
		if added(parts...) != sha.New().Add(s) {
			t.Errorf("parts of %d bytes: another Hash", size)
		}
	}
}

// What is handed in isn't changed.
func TestPartsStay(t *testing.T) {
	all := []string{"a", "", "bc", "spare"}
	sha.Sum(all[:3]...)
	sha.Text(all[:3]...)
	if !slices.Equal(all, []string{"a", "", "bc", "spare"}) {
		t.Errorf("the parts are %q now", all)
	}
}

// P1: every call ends and none panics, whatever bytes come.
func FuzzEnds(f *testing.F) {
	f.Add("", "", 0)
	f.Add("abc", "\x80\x00", 1)
	f.Add(strings.Repeat("\xff", 55), "x", 55)
	f.Add(strings.Repeat("\x00", 64), strings.Repeat("y", 64), 128)
	f.Fuzz(func(t *testing.T, a, b string, stop int) {
		agrees(t, wanted(a+b), a, b)
		var zero sha.Hash
		if zero.Add(a).Add(b) != sha.New().Add(a+b) {
			t.Errorf("%x and %x: another Hash", a, b)
		}
		blocks := slices.Collect(sha.Blocks(a))
		if got := strings.Join(blocks, ""); got != padded(a) {
			t.Errorf("Blocks(%x) = %x", a, got)
		}
		for block := range sha.Blocks(a) {
			if stop--; stop < 0 {
				break
			}
			if block != blocks[0] {
				t.Errorf("Blocks(%x) goes another way", a)
			}
			blocks = blocks[1:]
		}
	})
}
