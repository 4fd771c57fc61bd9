package ids_test

import (
	"bytes"
	stdhmac "crypto/hmac"
	"crypto/sha256"
	"math/rand/v2"
	"regexp"
	"slices"
	"strings"
	"testing"

	"cashier/api"
	"cashier/ids"
)

const known = "00112233-4455-6677-8899-aabbccddeeff"

var (
	knownID = api.UUID{0x00, 0x11, 0x22, 0x33, 0x44, 0x55, 0x66, 0x77, 0x88, 0x99, 0xaa, 0xbb, 0xcc, 0xdd, 0xee, 0xff}
	form    = regexp.MustCompile(`^[0-9a-f]{8}(-[0-9a-f]{4}){3}-[0-9a-f]{12}$`)
)

// filled gives the id of which each byte is b.
func filled(b byte) api.UUID { return api.UUID(bytes.Repeat([]byte{b}, 16)) }

// with gives the id with another byte at the place.
func with(u api.UUID, at int, b byte) api.UUID {
	u[at] = b
	return u
}

// P10.1: ids as texts.
func TestText(t *testing.T) {
	for want, u := range map[string]api.UUID{
		"00000000-0000-0000-0000-000000000000": {},
		"ffffffff-ffff-ffff-ffff-ffffffffffff": filled(0xff),
		known:                                  knownID,
		"01000000-0000-0000-0000-000000000002": {0: 1, 15: 2},
		"00000001-0200-0300-0400-050000000000": {3: 1, 4: 2, 6: 3, 8: 4, 10: 5},
		"00000000-0001-0002-0003-000000000000": {5: 1, 7: 2, 9: 3},
		"deadbeef-cafe-4bad-8bad-f00dfeedface": {0xde, 0xad, 0xbe, 0xef, 0xca, 0xfe, 0x4b, 0xad, 0x8b, 0xad, 0xf0, 0x0d, 0xfe, 0xed, 0xfa, 0xce},
	} {
		if got := ids.Text(u); got != want {
			t.Errorf("Text(%x) = %q, wanted %q", u, got, want)
		}
		if got, err := ids.Parse(want); got != u || err != api.OK {
			t.Errorf("Parse(%q) = %x, %v", want, got, err)
		}
	}
}

// P10.1: what is no id's text.
func TestParseRefuses(t *testing.T) {
	bare := strings.ReplaceAll(known, "-", "")
	for _, s := range []string{
		"", "-", "----", " ", "0", "00",
		bare,                                    // no -
		"00112233-4455-6677-8899-aabbccddeef",   // a letter less
		"00112233-4455-6677-8899-aabbccddeefff", // one more
		"00112233-4455-6677-8899-aabbccddee",    // a byte less
		"00112233-4455-6677-8899-aabbccddeeff00",
		"-" + known, known + "-", " " + known, known + " ", known + "\n", "{" + known + "}", "urn:uuid:" + known, known + known,
		"0011223344556677-8899-aabbccddeeff",      // a - less
		"00112233-4455-6677-8899-aabb-ccddeeff",   // one more
		"00112233--4455-6677-8899-aabbccddeeff",   // likewise
		"00112233-4455-6677-8899aabb-ccddeeff",    // one elsewhere
		"0011223-34455-6677-8899-aabbccddeeff",    // likewise
		"001122334-455-6677-8899-aabbccddeeff",    // likewise
		"--------" + bare[:28],                    // as long as a text is
		bare + "----",                             // likewise
		"00112233-4455-6677-8899-AABBCCDDEEFF",    // great letters
		"00112233-4455-6677-8899-aabbccddeefF",    // one of them
		"00112233-4455-6677-8899-aabbccddeefg",    // no letter of base sixteen
		"00112233-4455-6677-8899-aabbccddeef\x00", // likewise
		"00112233-4455-6677-8899-aabbccddeef\xff", // likewise
		"00112233\u20104455-6677-8899-aabbccddeeff",
		"00112233 4455 6677 8899 aabbccddeeff",
		"00112233_4455_6677_8899_aabbccddeeff",
		strings.Repeat("0", 36), strings.Repeat("-", 36), strings.Repeat("00", 100000),
	} {
		if got, err := ids.Parse(s); err != api.ErrForm || got != (api.UUID{}) {
			t.Errorf("Parse(%.60q) = %x, %v", s, got, err)
		}
	}
}

// P10.1: a text in which one byte is another one, or left out, or doubled, or
// two stand the other way round.
func TestParseTurned(t *testing.T) {
	for at := range len(known) {
		for b := range 256 {
			s := known[:at] + string([]byte{byte(b)}) + known[at+1:]
			got, err := ids.Parse(s)
			if want := form.MatchString(s); want != (err == api.OK) || want && ids.Text(got) != s {
				t.Errorf("Parse(%q) = %x, %v", s, got, err)
			}
			if err != api.OK && (err != api.ErrForm || got != (api.UUID{})) {
				t.Errorf("Parse(%q) = %x, %v", s, got, err)
			}
		}
		for _, s := range []string{known[:at] + known[at+1:], known[:at+1] + known[at:], known[:at], known[at+1:]} {
			if got, err := ids.Parse(s); err != api.ErrForm || got != (api.UUID{}) {
				t.Errorf("Parse(%q) = %x, %v", s, got, err)
			}
		}
		if at > 0 {
			s := known[:at-1] + known[at:at+1] + known[at-1:at] + known[at+1:]
			if _, err := ids.Parse(s); (err == api.OK) != form.MatchString(s) {
				t.Errorf("Parse(%q): %v", s, err)
			}
		}
	}
}

// P10.1: the upper half of the seventh byte.
func TestVersion(t *testing.T) {
	for b := range 256 {
		for _, u := range []api.UUID{{}, filled(0xff), knownID} {
			if got := ids.Version(with(u, 6, byte(b))); got != b/16 {
				t.Errorf("Version with %#x = %d", b, got)
			}
		}
	}
}

// P10.1: are all bytes 0?
func TestZero(t *testing.T) {
	if !ids.Zero(api.UUID{}) || ids.Zero(filled(0xff)) || ids.Zero(knownID) {
		t.Error("Zero of ids")
	}
	for at := range 16 {
		for bit := range 8 {
			if ids.Zero(with(api.UUID{}, at, 1<<bit)) {
				t.Errorf("Zero with bit %d of byte %d", bit, at)
			}
		}
	}
}

// P10.1: ids byte by byte.
func TestCmp(t *testing.T) {
	rising := []api.UUID{
		{}, {15: 1}, {15: 255}, {14: 1}, {14: 1, 15: 1}, {10: 1}, {8: 127}, {8: 128}, {8: 255}, {7: 1}, {1: 255, 15: 255}, {0: 1},
		{0: 1, 15: 1}, {0: 127}, {0: 128}, {0: 255}, filled(255),
	}
	for i, a := range rising {
		for k, b := range rising {
			want := 0
			if i < k {
				want = -1
			} else if i > k {
				want = 1
			}
			if got := ids.Cmp(a, b); got != want {
				t.Errorf("Cmp(%x, %x) = %d", a, b, got)
			}
		}
	}
	for at := range 16 {
		low, high := with(filled(7), at, 6), with(filled(7), at, 200)
		for behind := at + 1; behind < 16; behind++ {
			low[behind], high[behind] = 255, 0
		}
		if ids.Cmp(low, high) != -1 || ids.Cmp(high, low) != 1 || ids.Cmp(low, low) != 0 {
			t.Errorf("Cmp of what differs from byte %d on", at)
		}
	}
}

// P10.2: ids of bytes that are drawn.
func TestDraw(t *testing.T) {
	for _, c := range []struct{ s, want string }{
		{strings.Repeat("\x00", 16), "00000000-0000-4000-8000-000000000000"},
		{strings.Repeat("\xff", 16), "ffffffff-ffff-4fff-bfff-ffffffffffff"},
		{"0123456789abcdef", "30313233-3435-4637-b839-616263646566"},
		{string(knownID[:]), "00112233-4455-4677-8899-aabbccddeeff"},
	} {
		if got, err := ids.Draw(c.s); ids.Text(got) != c.want || err != api.OK {
			t.Errorf("Draw(%x) = %s, %v, wanted %s", c.s, ids.Text(got), err, c.want)
		}
	}
	for b := range 256 {
		for _, u := range []api.UUID{{}, filled(0xff), knownID} {
			u[6], u[8] = byte(b), byte(b)
			got, err := ids.Draw(string(u[:]))
			want := with(with(u, 6, 0x40+byte(b%16)), 8, 0x80+byte(b%64))
			if got != want || err != api.OK || ids.Version(got) != 4 {
				t.Errorf("Draw(%x) = %x, %v", u, got, err)
			}
		}
	}
}

// P10.2: where there aren't 16 bytes.
func TestDrawRefuses(t *testing.T) {
	for n := range 64 {
		if got, err := ids.Draw(strings.Repeat("\xff", n)); n != 16 && (err != api.ErrForm || got != (api.UUID{})) {
			t.Errorf("Draw of %d bytes = %x, %v", n, got, err)
		}
	}
	for _, s := range []string{known, strings.ReplaceAll(known, "-", ""), strings.Repeat("\u00e9", 16), strings.Repeat("a", 1<<20)} {
		if got, err := ids.Draw(s); err != api.ErrForm || got != (api.UUID{}) {
			t.Errorf("Draw(%.60q) = %x, %v", s, got, err)
		}
	}
	if _, err := ids.Draw(strings.Repeat("\u00e9", 8)); err != api.OK {
		t.Errorf("Draw of 16 bytes that are 8 letters: %v", err)
	}
}

// derived gives the library's first bytes of the name's sum by the key, with
// the bits of version 4.
func derived(key, name string) api.UUID {
	h := stdhmac.New(sha256.New, []byte(key))
	h.Write([]byte(name))
	u := api.UUID(h.Sum(nil)[:16])
	u[6], u[8] = 0x40+u[6]%16, 0x80+u[8]%64
	return u
}

// P10.2: ids of names.
func TestDerive(t *testing.T) {
	// RFC 4231's second sum begins with 5bdcc146 bf60 754e 6a04.
	if got := ids.Text(ids.Derive("Jefe", "what do ya want for nothing?")); got != "5bdcc146-bf60-454e-aa04-2426089575c7" {
		t.Errorf("Derive of the known name = %s", got)
	}
	texts := []string{"", "a", "b", "ab", "k", "\x00", "\xff", known, strings.Repeat("x", 64), strings.Repeat("x", 65), strings.Repeat("x", 5000)}
	met := map[api.UUID]int{}
	for _, key := range texts {
		for _, name := range texts {
			got := ids.Derive(key, name)
			if got != derived(key, name) || got != ids.Derive(key, name) {
				t.Errorf("Derive(%.20q, %.20q) = %x", key, name, got)
			}
			met[got]++
		}
	}
	// The key "\x00" is filled up to what the empty one is.
	if wanted := (len(texts) - 1) * len(texts); len(met) != wanted {
		t.Errorf("%d unlike ids, wanted %d", len(met), wanted)
	}
}

// P10.3: what is written is read as it was; texts stand in the order of ids.
func TestBack(t *testing.T) {
	r := rand.New(rand.NewPCG(10, 10))
	some := []api.UUID{{}, filled(0xff), knownID}
	for range 3000 {
		var u api.UUID
		for i := range u {
			u[i] = byte(r.Uint32())
		}
		some = append(some, u, with(u, r.IntN(16), byte(r.Uint32())))
	}
	for i, u := range some {
		s := ids.Text(u)
		if len(s) != 36 || !form.MatchString(s) {
			t.Fatalf("Text(%x) = %q", u, s)
		}
		if got, err := ids.Parse(s); got != u || err != api.OK {
			t.Fatalf("%x is read as %x, %v", u, got, err)
		}
		if before := some[max(i-1, 0)]; ids.Cmp(before, u) != strings.Compare(ids.Text(before), s) {
			t.Fatalf("Cmp(%x, %x) = %d", before, u, ids.Cmp(before, u))
		}
	}
}

// P1: every call ends and none panics, whatever bytes come.
func FuzzEnds(f *testing.F) {
	f.Add("", "")
	f.Add(known, "0123456789abcdef")
	f.Add("00112233-4455-6677-8899-aabbccddeefF", "\x00")
	f.Add("00112233445566778899aabbccddeeff----", strings.Repeat("\xff", 17))
	f.Fuzz(func(t *testing.T, s, draw string) {
		u, err := ids.Parse(s)
		if (err == api.OK) != form.MatchString(s) || err == api.OK && ids.Text(u) != s || err != api.OK && (err != api.ErrForm || !ids.Zero(u)) {
			t.Errorf("Parse(%q) = %x, %v", s, u, err)
		}
		v, err := ids.Draw(draw)
		if (err == api.OK) != (len(draw) == 16) || err == api.OK && ids.Version(v) != 4 || err != api.OK && (err != api.ErrForm || !ids.Zero(v)) {
			t.Errorf("Draw(%q) = %x, %v", draw, v, err)
		}
		if got := ids.Derive(s, draw); got != derived(s, draw) {
			t.Errorf("Derive(%q, %q) = %x", s, draw, got)
		}
		if got := ids.Cmp(u, v); got != slices.Compare(u[:], v[:]) {
			t.Errorf("Cmp(%x, %x) = %d", u, v, got)
		}
	})
}
