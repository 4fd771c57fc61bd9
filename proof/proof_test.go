package proof_test

import (
	"crypto/hmac"
	"crypto/sha256"
	"encoding/base64"
	"encoding/binary"
	"encoding/hex"
	"math/rand/v2"
	"regexp"
	"slices"
	"strings"
	"testing"

	"cashier/api"
	"cashier/catalog"
	"cashier/ids"
	"cashier/message"
	"cashier/octet"
	"cashier/proof"
)

// usual is a case whose parts are all unlike.
var usual = proof.Case{
	Server: filled(0x11), ACS: filled(0x22), DS: filled(0x33),
	Card: "4111111111111111", Amount: "250", Currency: "978", Date: "20240229235959", Status: "Y",
}

func filled(b byte) (u api.UUID) {
	for i := range u {
		u[i] = b
	}
	return u
}

// listed gives what a case has, in order.
func listed(c proof.Case) []string {
	return []string{"CAVV", string(c.Server[:]), string(c.ACS[:]), string(c.DS[:]), c.Card, c.Amount, c.Currency, c.Date, c.Status}
}

// wanted gives the case's text, in another way.
func wanted(c proof.Case) string {
	var b []byte
	for _, part := range listed(c) {
		b = append(binary.BigEndian.AppendUint32(b, uint32(len(part))), part...)
	}
	return string(b)
}

// value gives the case's value by what the library has.
func value(c proof.Case, key string) string {
	h := hmac.New(sha256.New, []byte(key))
	h.Write([]byte(wanted(c)))
	return base64.StdEncoding.EncodeToString(h.Sum(nil)[:20])
}

// held holds all that is made of a case against the words above.
func held(t *testing.T, c proof.Case, key string) {
	t.Helper()
	if got := slices.Collect(proof.Parts(c)); !slices.Equal(got, listed(c)) {
		t.Errorf("Parts = %q", got)
	}
	if got, want := c.Text(), wanted(c); got != want {
		t.Errorf("%v: Text() = %x, wanted %x", c, got, want)
	}
	want := value(c, key)
	if got := c.Value(key); got != want || len(got) != 28 {
		t.Errorf("%v: Value(%q) = %q, wanted %q", c, key, got, want)
	}
	if !c.Right(key, want) {
		t.Errorf("%v: its value by %q isn't right", c, key)
	}
}

// texts gives texts that may stand anywhere.
func texts() []string {
	return []string{"", "Y", "A", "N", "C", "1", "CAVV", "\x00", "\x00\x00\x00\x00", "\x00\x00\x00\x01Y", "\xff\xfe", "\u20ac", strings.Repeat("x", 255), strings.Repeat("x", 256), strings.Repeat("x", 70000)}
}

// P22.1: the text of a case, in full.
func TestTextTold(t *testing.T) {
	want := "0000000443415656" +
		"0000001011111111111111111111111111111111" + "0000001022222222222222222222222222222222" + "0000001033333333333333333333333333333333" +
		"0000001034313131313131313131313131313131" + "00000003323530" + "00000003393738" + "0000000e3230323430323239323335393539" + "0000000159"
	if got := hex.EncodeToString([]byte(usual.Text())); got != want {
		t.Errorf("Text() = %s, wanted %s", got, want)
	}
	none := "0000000443415656" + strings.Repeat("00000010"+strings.Repeat("00", 16), 3) + strings.Repeat("00000000", 5)
	if got := hex.EncodeToString([]byte(proof.Case{}.Text())); got != none {
		t.Errorf("Text() of no case = %s, wanted %s", got, none)
	}
}

// P22.1: parts, texts and values, whatever stands at each place.
func TestCases(t *testing.T) {
	keys := []string{"", "k", "\x00", "\xff", strings.Repeat("k", 64), strings.Repeat("k", 65), strings.Repeat("k", 500)}
	for _, key := range keys {
		held(t, proof.Case{}, key)
		held(t, usual, key)
	}
	for _, s := range texts() {
		for _, do := range turns(s, 0) {
			c := usual
			do(&c)
			held(t, c, "k")
		}
		held(t, proof.Case{Card: s, Amount: s, Currency: s, Date: s, Status: s}, "k")
	}
	for at := range 16 {
		for _, do := range turns("", at) {
			c := usual
			do(&c)
			held(t, c, "k")
		}
	}
}

// turns gives what makes of a case another one, a part each: another text, or
// a bit of an id.
func turns(s string, at int) []func(c *proof.Case) {
	return []func(c *proof.Case){
		func(c *proof.Case) { c.Server[at] ^= 1 }, func(c *proof.Case) { c.ACS[at] ^= 1 }, func(c *proof.Case) { c.DS[at] ^= 1 },
		func(c *proof.Case) { c.Card = s }, func(c *proof.Case) { c.Amount = s }, func(c *proof.Case) { c.Currency = s },
		func(c *proof.Case) { c.Date = s }, func(c *proof.Case) { c.Status = s },
	}
}

// P22.1: a text that isn't just the value isn't right, nor is one of another
// key, or of another case.
func TestRight(t *testing.T) {
	v := usual.Value("key")
	for at := range len(v) {
		for bit := range 8 {
			other := []byte(v)
			other[at] ^= 1 << bit
			if usual.Right("key", string(other)) {
				t.Errorf("%q is right", other)
			}
		}
		for _, s := range []string{v[:at], v[at+1:], v[:at] + v[at+1:], v[:at] + "A" + v[at:], v[:at] + " " + v[at:]} {
			if usual.Right("key", s) {
				t.Errorf("%q is right", s)
			}
		}
	}
	for _, s := range []string{
		"", v + "=", v + "\n", v + v, " " + v, strings.TrimRight(v, "="), v[:27] + "A", strings.ToLower(v), strings.ToUpper(v),
		strings.NewReplacer("+", "-", "/", "_").Replace(strings.TrimRight(v, "=")), usual.Value("Key"), usual.Value("key "), usual.Value(""), strings.Repeat("A", 27) + "=",
	} {
		if usual.Right("key", s) {
			t.Errorf("%q is right", s)
		}
	}
	for _, s := range texts() {
		for _, do := range turns(s, 5) {
			c := usual
			do(&c)
			if c != usual && (c.Right("key", v) || usual.Right("key", c.Value("key"))) {
				t.Errorf("%v is right with the value of %v", c, usual)
			}
		}
	}
}

// P22.1: a part may end anywhere, and the ids may be one.
func TestPartsLeft(t *testing.T) {
	parts := proof.Parts(usual)
	want := listed(usual)
	for stop := range want {
		at := 0
		for part := range parts {
			if part != want[at] {
				t.Errorf("Parts has %q at %d", part, at)
			}
			if inner := slices.Collect(parts); !slices.Equal(inner, want) {
				t.Errorf("Parts in Parts = %q", inner)
			}
			if at == stop {
				break
			}
			at++
		}
		if at != stop {
			t.Errorf("Parts was left at %d, not at %d", at, stop)
		}
	}
}

// P22.2: cases that differ have unlike texts, and values: the same bytes, with
// the parts' ends elsewhere.
func TestApart(t *testing.T) {
	seen := map[string]proof.Case{}
	values := map[string]int{}
	all := "41\x00\x00\x00\x01Y978"
	n := 0
	for a := range len(all) + 1 {
		for b := a; b <= len(all); b++ {
			for c := b; c <= len(all); c++ {
				for d := c; d <= len(all); d++ {
					x := proof.Case{Card: all[:a], Amount: all[a:b], Currency: all[b:c], Date: all[c:d], Status: all[d:]}
					if other, ok := seen[x.Text()]; ok {
						t.Fatalf("%v and %v have one text", x, other)
					}
					seen[x.Text()] = x
					values[x.Value("k")]++
					n++
				}
			}
		}
	}
	if len(values) != n {
		t.Errorf("%d cases have %d values", n, len(values))
	}
}

// P22.2: whatever part is another one, the text is.
func TestTurned(t *testing.T) {
	seen := map[string]proof.Case{usual.Text(): usual}
	for _, s := range texts() {
		for at := range 16 {
			for _, do := range turns(s, at) {
				c := usual
				do(&c)
				if other, ok := seen[c.Text()]; ok && other != c {
					t.Errorf("%v and %v have one text", c, other)
				}
				seen[c.Text()] = c
			}
		}
	}
	for _, l := range [][3]byte{{1, 2, 3}, {1, 3, 2}, {2, 1, 3}, {2, 3, 1}, {3, 1, 2}, {3, 2, 1}, {1, 1, 2}, {1, 2, 1}, {2, 1, 1}} {
		c := proof.Case{Server: filled(l[0]), ACS: filled(l[1]), DS: filled(l[2])}
		if other, ok := seen[c.Text()]; ok {
			t.Errorf("%v and %v have one text", c, other)
		}
		seen[c.Text()] = c
	}
}

// P22.2: a text is read in one way alone: layer 1's Parts gives what stands
// in it.
func TestBack(t *testing.T) {
	r := rand.New(rand.NewPCG(22, 2))
	l := texts()
	for range 2000 {
		c := proof.Case{Card: l[r.IntN(len(l))], Amount: l[r.IntN(len(l)-1)], Currency: l[r.IntN(len(l)-1)], Date: l[r.IntN(len(l)-1)], Status: l[r.IntN(len(l)-1)]}
		for i := range 16 {
			c.Server[i], c.ACS[i], c.DS[i] = byte(r.Uint32()), byte(r.Uint32()), byte(r.Uint32())
		}
		if got := slices.Collect(octet.Parts(c.Text())); !slices.Equal(got, listed(c)) {
			t.Fatalf("%v is read as %q", c, got)
		}
	}
}

const server = "30313233-3435-4637-b839-616263646566"

var serverID = api.UUID([]byte("012345F7\xb89abcdef"))

// fields are those that a case is of.
var fields = []string{"threeDSServerTransID", "acctNumber", "purchaseAmount", "purchaseCurrency", "purchaseDate"}

// request gives a message that has all of them.
func request() message.Message {
	m := message.New(catalog.AReq)
	for i, s := range []string{server, "4111111111111111", "250", "978", "20240229235959"} {
		m = m.With(fields[i], s)
	}
	return m
}

// P22.1: the case of a message.
func TestOf(t *testing.T) {
	acs, ds := filled(0x22), filled(0x33)
	want := usual
	want.Server = serverID
	for _, status := range texts() {
		want.Status = status
		for _, m := range []message.Message{
			request(), request().With("mcc", "5411").With("transStatus", "N"), request().Without("messageType"), request().With("messageType", "CReq"), request().With("acsTransID", server).With("dsTransID", server),
		} {
			if got, err := proof.Of(m, acs, ds, status); got != want || err != api.OK {
				t.Errorf("Of with the status %.20q = %v, %v, wanted %v", status, got, err, want)
			}
		}
	}
	want.Status = "C"
	if got, err := proof.Of(request(), ds, acs, "C"); err != api.OK || got.ACS != ds || got.DS != acs || got.Server != serverID {
		t.Errorf("Of with the ids the other way round = %v, %v", got, err)
	}
	if got, err := proof.Of(request(), api.UUID{}, api.UUID{}, ""); err != api.OK || got.ACS != (api.UUID{}) || got.DS != (api.UUID{}) || got.Server != serverID {
		t.Errorf("Of with ids of noughts = %v, %v", got, err)
	}
	for _, s := range texts() {
		m := request().With("acctNumber", s).With("purchaseAmount", s+"1").With("purchaseCurrency", s+"2").With("purchaseDate", s+"3")
		if got, err := proof.Of(m, acs, ds, "Y"); err != api.OK || got != (proof.Case{Server: serverID, ACS: acs, DS: ds, Card: s, Amount: s + "1", Currency: s + "2", Date: s + "3", Status: "Y"}) {
			t.Errorf("Of with %.20q = %v, %v", s, got, err)
		}
	}
}

// P22.1: of each message that lacks something, ErrNone, be the id one or not.
func TestOfNone(t *testing.T) {
	for set := 1; set < 1<<len(fields); set++ {
		for _, id := range []string{server, "x", ""} {
			m := request().With(fields[0], id)
			for i, name := range fields {
				if set>>i&1 == 1 {
					m = m.Without(name)
				}
			}
			none(t, m, api.ErrNone)
		}
	}
	for _, m := range []message.Message{{}, message.New(catalog.AReq), message.New(catalog.CReq), message.New(0), message.New(99), message.Message{}.With(fields[0], server)} {
		none(t, m, api.ErrNone)
	}
}

func none(t *testing.T, m message.Message, want api.Errno) {
	t.Helper()
	if got, err := proof.Of(m, filled(1), filled(2), "Y"); err != want || got != (proof.Case{}) {
		t.Errorf("Of = %v, %v, wanted %v", got, err, want)
	}
}

// P22.1: what is no id.
func TestOfForm(t *testing.T) {
	for _, id := range append(texts(), strings.ToUpper(server), server[1:], server+"0", " "+server, server+"\n", strings.ReplaceAll(server, "-", ""), strings.ReplaceAll(server, "-", "_"), server[:35]+"g", strings.Repeat("0", 36)) {
		none(t, request().With(fields[0], id), api.ErrForm)
	}
	m := request().With(fields[0], "00000000-0000-0000-0000-000000000000") // of any version
	if got, err := proof.Of(m, filled(1), filled(2), "Y"); err != api.OK || got.Server != (api.UUID{}) || got.ACS != filled(1) {
		t.Errorf("Of with an id of noughts = %v, %v", got, err)
	}
}

// The rule of memory: the message stays as it was.
func TestMemory(t *testing.T) {
	m, c := request(), usual
	proof.Of(m, filled(1), filled(2), "Y")
	for range proof.Parts(c) {
	}
	c.Text()
	c.Value("k")
	if !message.Same(m, request()) || c != usual {
		t.Errorf("what was handed in is changed: %v", c)
	}
}

// P1: every call ends and none panics, whatever is handed in; what is found is
// what the test finds.
func FuzzEnds(f *testing.F) {
	form := regexp.MustCompile(`\A[0-9a-f]{8}(-[0-9a-f]{4}){3}-[0-9a-f]{12}\z`)
	f.Add([]byte(server), server, "4111111111111111", "250", "978", "20240229235959", "Y", "k", "AAAAAAAAAAAAAAAAAAAAAAAAAAA=", 31)
	f.Add([]byte{}, "", "", "", "", "", "", "", "", 0)
	f.Add([]byte("\xff"), "\xff", "\xff", "\xff", "\xff", "\xff", "\xff", "\xff", "\xff", 30)
	f.Fuzz(func(t *testing.T, raw []byte, id, card, amount, currency, date, status, key, said string, set int) {
		c := proof.Case{Card: card, Amount: amount, Currency: currency, Date: date, Status: status}
		for i, b := range raw {
			[...]*api.UUID{&c.Server, &c.ACS, &c.DS}[i/16%3][i%16] ^= b
		}
		held(t, c, key)
		if got := c.Right(key, said); got != (said == value(c, key)) {
			t.Errorf("%v: Right(%q, %q) = %v", c, key, said, got)
		}
		m, want := message.Message{}, api.OK
		for i, s := range []string{id, card, amount, currency, date} {
			if set>>i&1 == 1 {
				m = m.With(fields[i], s)
			} else {
				want = api.ErrNone
			}
		}
		if want == api.OK && !form.MatchString(id) {
			want = api.ErrForm
		}
		got, err := proof.Of(m, c.ACS, c.DS, status)
		if err == api.OK {
			if ids.Text(got.Server) != id {
				t.Errorf("Of with the id %q has %x", id, got.Server)
			}
			got.Server = c.Server
		} else {
			c = proof.Case{}
		}
		if err != want || got != c {
			t.Errorf("Of = %v, %v, wanted %v, %v", got, err, c, want)
		}
	})
}
