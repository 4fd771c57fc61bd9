package book_test

import (
	"crypto/sha256"
	"encoding/binary"
	"math"
	"math/rand/v2"
	"strings"
	"testing"

	"cashier/api"
	"cashier/book"
	"cashier/otp"
	"cashier/proof"
	"cashier/txn"
)

const most = math.MaxUint64

// full is an entry of which no two parts are the same.
func full() book.Entry {
	return book.Entry{
		Txn: txn.Txn{
			Case:    proof.Case{Server: api.UUID{1, 15: 2}, ACS: api.UUID{3, 15: 4}, DS: api.UUID{5, 15: 6}, Card: "card", Amount: "amount", Currency: "currency", Date: "date", Status: "status"},
			Version: "version", Category: "category", To: "to", Proof: "value",
			OTP:   otp.State{Tries: 7, Deadline: 0x0102030405060708, Over: 4},
			Phase: 2, Sent: 300, Entered: -1, Next: 1 << 63,
		},
		Seq: 0xfedcba9876543210, First: "first", Sum: "sum", Last: "last", Reply: "reply",
	}
}

// turned gives the full entry, turned.
func turned(do func(e *book.Entry)) book.Entry {
	e := full()
	do(&e)
	return e
}

// eight gives the number's bytes.
func eight(n uint64) string { return string(binary.BigEndian.AppendUint64(nil, n)) }

// parts gives what an entry's text counts, in another way.
func parts(e book.Entry) []string {
	x := e.Txn
	out := []string{string(x.Case.Server[:]), string(x.Case.ACS[:]), string(x.Case.DS[:])}
	out = append(out, x.Case.Card, x.Case.Amount, x.Case.Currency, x.Case.Date, x.Case.Status, x.Version, x.Category, x.To, x.Proof)
	out = append(out, string([]byte{byte(x.OTP.Tries), byte(x.OTP.Over)})+eight(x.OTP.Deadline))
	for _, n := range []int{x.Phase, x.Sent, x.Entered} {
		out = append(out, eight(uint64(n)))
	}
	return append(out, eight(x.Next), eight(e.Seq), e.First, e.Sum, e.Last, e.Reply)
}

// counted gives the texts, each behind its length.
func counted(l []string) string {
	var out []byte
	for _, s := range l {
		out = append(binary.BigEndian.AppendUint32(out, uint32(len(s))), s...)
	}
	return string(out)
}

// read holds Parse of a text against what it must answer: an entry, or none.
func read(t *testing.T, text string, want book.Entry, err api.Errno) {
	t.Helper()
	if got, e := book.Parse(text); got != want || e != err {
		t.Errorf("Parse(%q) = %v, %v, wanted %v, %v", text, got, e, want, err)
	}
}

// refused tells whether the text is no entry's.
func refused(t *testing.T, text string) {
	t.Helper()
	read(t, text, book.Entry{}, api.ErrForm)
}

// P25.1: a text, byte by byte.
func TestText(t *testing.T) {
	nought := strings.Repeat("\x00", 14)
	want := "\x00\x00\x00\x10\x01" + nought + "\x02\x00\x00\x00\x10\x03" + nought + "\x04\x00\x00\x00\x10\x05" + nought + "\x06" +
		"\x00\x00\x00\x04card\x00\x00\x00\x06amount\x00\x00\x00\x08currency\x00\x00\x00\x04date\x00\x00\x00\x06status" +
		"\x00\x00\x00\x07version\x00\x00\x00\x08category\x00\x00\x00\x02to\x00\x00\x00\x05value" +
		"\x00\x00\x00\x0a\x07\x04\x01\x02\x03\x04\x05\x06\x07\x08" +
		"\x00\x00\x00\x08\x00\x00\x00\x00\x00\x00\x00\x02\x00\x00\x00\x08\x00\x00\x00\x00\x00\x00\x01\x2c" +
		"\x00\x00\x00\x08\xff\xff\xff\xff\xff\xff\xff\xff\x00\x00\x00\x08\x80\x00\x00\x00\x00\x00\x00\x00" +
		"\x00\x00\x00\x08\xfe\xdc\xba\x98\x76\x54\x32\x10" +
		"\x00\x00\x00\x05first\x00\x00\x00\x03sum\x00\x00\x00\x04last\x00\x00\x00\x05reply"
	if got := full().Text(); got != want {
		t.Errorf("Text() = %q, wanted %q", got, want)
	}
	read(t, want, full(), api.OK)
	var zero book.Entry
	if got, want := zero.Text(), counted(parts(zero)); got != want || len(got) != 22*4+3*16+10+5*8 {
		t.Errorf("of the zero entry %q, wanted %q", got, want)
	}
	read(t, zero.Text(), zero, api.OK)
}

// P25.1: of ints all are told, those below 0 modulo 2^64; what is 2^63 or more
// is that less 2^64.
func TestNumbers(t *testing.T) {
	for n, bytes := range map[int]string{
		0: "\x00\x00\x00\x00\x00\x00\x00\x00", 1: "\x00\x00\x00\x00\x00\x00\x00\x01", 255: "\x00\x00\x00\x00\x00\x00\x00\xff",
		256: "\x00\x00\x00\x00\x00\x00\x01\x00", 1 << 32: "\x00\x00\x00\x01\x00\x00\x00\x00", math.MaxInt: "\x7f\xff\xff\xff\xff\xff\xff\xff",
		-1: "\xff\xff\xff\xff\xff\xff\xff\xff", -2: "\xff\xff\xff\xff\xff\xff\xff\xfe", math.MinInt: "\x80\x00\x00\x00\x00\x00\x00\x00",
		math.MinInt + 1: "\x80\x00\x00\x00\x00\x00\x00\x01",
	} {
		for place, e := range map[int]book.Entry{
			13: turned(func(e *book.Entry) { e.Txn.Phase = n }),
			14: turned(func(e *book.Entry) { e.Txn.Sent = n }),
			15: turned(func(e *book.Entry) { e.Txn.Entered = n }),
			16: turned(func(e *book.Entry) { e.Txn.Next = uint64(n) }),
			17: turned(func(e *book.Entry) { e.Seq = uint64(n) }),
		} {
			l := parts(full())
			l[place] = bytes
			if got := e.Text(); got != counted(l) {
				t.Errorf("%d at %d: Text() = %q, wanted %q", n, place, got, counted(l))
			}
			read(t, counted(l), e, api.OK)
		}
	}
}

// P25.1: each text may be any bytes, and none goes over into the next.
func TestTexts(t *testing.T) {
	texts := func(e *book.Entry) []*string {
		c := &e.Txn.Case
		return []*string{&c.Card, &c.Amount, &c.Currency, &c.Date, &c.Status, &e.Txn.Version, &e.Txn.Category, &e.Txn.To, &e.Txn.Proof, &e.First, &e.Sum, &e.Last, &e.Reply}
	}
	seen := map[string]book.Entry{}
	for i := range texts(new(book.Entry)) {
		for _, s := range []string{"", "x", "\x00", "\x00\x00\x00\x00", "\x00\x00\x00\x01x", "\xff\xfe", "\u20ac", strings.Repeat("y", 255), strings.Repeat("z", 70000)} {
			e := full()
			*texts(&e)[i] = s
			text := e.Text()
			if text != counted(parts(e)) {
				t.Errorf("%d of %.20q: Text() = %.200q", i, s, text)
			}
			read(t, text, e, api.OK)
			if other, ok := seen[text]; ok && other != e {
				t.Errorf("%v and %v have one text", e, other)
			}
			seen[text] = e
		}
	}
	if len(seen) < 13*9 {
		t.Errorf("there are %d texts", len(seen))
	}
}

// P25.1: nothing else is an entry's text: none that is cut, longer, or has parts
// of another size.
func TestParseForm(t *testing.T) {
	whole := full().Text()
	for n := range len(whole) {
		refused(t, whole[:n])
	}
	for _, behind := range []string{"\x00", "x", "\x00\x00\x00\x00", "\x00\x00\x00\x01x", "\x00\x00\x00\x01", whole} {
		refused(t, whole+behind)
		refused(t, behind+whole)
	}
	for i := range 22 {
		l := parts(full())
		refused(t, counted(append(l[:i:i], l[i+1:]...)))
		refused(t, counted(append(append(l[:i:i], ""), l[i:]...)))
		for j, s := range []string{"", "x", l[i] + "\x00", "\x00" + l[i], l[i][:len(l[i])-1], l[i][1:], l[i] + l[i]} {
			l := parts(full())
			l[i] = s
			_, err := book.Parse(counted(l))
			if text := i > 2 && i < 12 || i > 17; text != (err == api.OK) {
				t.Errorf("at %d %q (%d): %v", i, s, j, err)
			}
		}
	}
	for i := range len(whole) { // a length that is told otherwise
		b := []byte(whole)
		b[i] ^= 0x80
		if e, err := book.Parse(string(b)); err == api.OK && e.Text() != string(b) || err != api.OK && (err != api.ErrForm || e != book.Entry{}) {
			t.Errorf("Parse(%q) = %v, %v", b, e, err)
		}
	}
}

// P25.1: the challenge is one that layer 21 reads.
func TestChallenge(t *testing.T) {
	for tries := range 256 {
		for _, over := range []int{0, 1, 2, 3, 4, 5, 6, 128, 255} {
			for _, deadline := range []uint64{0, 1, 1 << 40, most} {
				e := turned(func(e *book.Entry) { e.Txn.OTP = otp.State{Tries: tries, Over: over, Deadline: deadline} })
				if tries > 9 || over > 4 {
					refused(t, e.Text())
				} else {
					read(t, e.Text(), e, api.OK)
				}
			}
		}
	}
	for _, tries := range []int{-1, -256, 256, 263, math.MinInt, math.MaxInt} { // modulo 256, as layer 21 has it
		e := turned(func(e *book.Entry) { e.Txn.OTP.Tries = tries })
		if e.Text() != counted(parts(e)) {
			t.Errorf("of %d tries: %q", tries, e.Text())
		}
	}
}

// P25.1: an entry's id is its ACS's.
func TestID(t *testing.T) {
	for _, id := range []api.UUID{{}, {9}, {15: 9}, {0xff}} {
		if got := turned(func(e *book.Entry) { e.Txn.Case.ACS = id }).ID(); got != id {
			t.Errorf("ID() = %x, wanted %x", got, id)
		}
	}
}

// P25.1: a transaction as it was answered first, whatever became of it.
func TestBegan(t *testing.T) {
	for _, first := range []string{"Y", "A", "C", "N", "U", "R", "", "y", "YA", "AY", "Y ", "x"} {
		for _, status := range []string{"Y", "A", "C", "N", "U", ""} {
			for _, value := range []string{"", "value"} {
				for phase := range 5 {
					e := turned(func(e *book.Entry) {
						e.First, e.Txn.Case.Status, e.Txn.Proof, e.Txn.Phase = first, status, value, phase
					})
					want := e.Txn
					want.Case.Status = first
					if !strings.Contains(" Y A ", " "+first+" ") || first == "" {
						want.Proof = ""
					}
					if got := e.Began(); got != want {
						t.Errorf("of %q, now %q with %q: Began() = %v, wanted %v", first, status, value, got, want)
					}
				}
			}
		}
	}
}

// P25.1: a request's sum.
func TestSum(t *testing.T) {
	for _, s := range []string{"", "abc", "x", "\x00", "\xff", strings.Repeat("y", 63), strings.Repeat("y", 64), strings.Repeat("z", 5000)} {
		sum := sha256.Sum256([]byte(s))
		if got := book.Sum(s); got != string(sum[:16]) {
			t.Errorf("Sum(%.20q) = %x, wanted %x", s, got, sum[:16])
		}
	}
}

// drawn gives an entry by chance; each of its texts is short, so that two may
// be the same.
func drawn(r *rand.Rand) book.Entry {
	text := func() string { return strings.Repeat(string(rune('\x00'+r.IntN(3))), r.IntN(4)) }
	number := func() int { return []int{r.IntN(4), -r.IntN(4), math.MinInt, math.MaxInt, int(r.Uint64())}[r.IntN(5)] }
	id := func() (u api.UUID) {
		u[r.IntN(16)] = byte(r.IntN(3))
		return u
	}
	c := proof.Case{Server: id(), ACS: id(), DS: id(), Card: text(), Amount: text(), Currency: text(), Date: text(), Status: text()}
	x := txn.Txn{Case: c, Version: text(), Category: text(), To: text(), Proof: text(), OTP: otp.State{Tries: r.IntN(10), Deadline: r.Uint64(), Over: r.IntN(5)}}
	x.Phase, x.Sent, x.Entered, x.Next = number(), number(), number(), r.Uint64()
	return book.Entry{Txn: x, Seq: r.Uint64(), First: text(), Sum: text(), Last: text(), Reply: text()}
}

// P25.1: entries by chance are read as they were, and no two have one text.
func TestTextChance(t *testing.T) {
	r := rand.New(rand.NewPCG(25, 1))
	for range 5000 {
		e := drawn(r)
		text := e.Text()
		if text != counted(parts(e)) {
			t.Errorf("%v: Text() = %q", e, text)
		}
		read(t, text, e, api.OK)
		at := r.IntN(len(text))
		b := []byte(text)
		b[at] ^= byte(1 + r.IntN(255))
		if got, err := book.Parse(string(b)); err == api.OK && (got == e || counted(parts(got)) != string(b)) || err != api.OK && (err != api.ErrForm || got != book.Entry{}) {
			t.Errorf("Parse(%q) = %v, %v", b, got, err)
		}
	}
}

// P1: whatever is read.
func FuzzParse(f *testing.F) {
	f.Add([]byte(full().Text()))
	f.Add([]byte(book.Entry{}.Text()))
	f.Add([]byte("\x00\x00\x00\x10"))
	f.Add([]byte("\xff\xff\xff\xff\xff"))
	f.Fuzz(func(t *testing.T, b []byte) {
		e, err := book.Parse(string(b))
		switch {
		case err == api.OK:
			if e.Text() != string(b) || counted(parts(e)) != string(b) {
				t.Errorf("Parse(%q) = %v", b, e)
			}
		case err != api.ErrForm || e != book.Entry{}:
			t.Errorf("Parse(%q) = %v, %v", b, e, err)
		}
		e.Began()
		e.ID()
		book.Sum(string(b))
	})
}
