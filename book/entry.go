package book

import (
	"iter"
	"strings"

	"cashier/api"
	"cashier/octet"
	"cashier/otp"
	"cashier/proof"
	"cashier/sha"
	"cashier/txn"
)

const (
	sumSize    = 16 // bytes
	numberSize = 8

	// What a value goes with.
	granted   = "Y"
	attempted = "A"
)

// Entry is a transaction, and what was answered.
type Entry struct {
	Txn                     txn.Txn
	Seq                     uint64
	First, Sum, Last, Reply string
}

// Sum gives a request's sum, as entries have it.
func Sum(s string) string { return sha.Text(s)[:sumSize] }

// ID gives the entry's id, its ACS's.
func (e Entry) ID() api.UUID { return e.Txn.Case.ACS }

// server gives its server's id.
func (e Entry) server() api.UUID { return e.Txn.Case.Server }

// Began gives its transaction as it was answered first.
func (e Entry) Began() txn.Txn {
	t := e.Txn
	t.Case.Status = e.First
	if e.First != granted && e.First != attempted {
		t.Proof = ""
	}
	return t
}

// Text gives the entry's text.
func (e Entry) Text() string {
	var b strings.Builder
	for text := range e.texts() {
		// Counted, so that no byte can go from one text over to the next.
		b.WriteString(octet.Counted(text))
	}
	return b.String()
}

// texts goes through what the entry's text counts, in order.
func (e Entry) texts() iter.Seq[string] {
	return func(yield func(string) bool) {
		t, c := e.Txn, e.Txn.Case
		for _, text := range [...]string{
			string(c.Server[:]), string(c.ACS[:]), string(c.DS[:]),
			c.Card, c.Amount, c.Currency, c.Date, c.Status,
			t.Version, t.Category, t.To, t.Proof, t.OTP.Text(),
			number(uint64(t.Phase)), number(uint64(t.Sent)), number(uint64(t.Entered)), number(t.Next),
			number(e.Seq), e.First, e.Sum, e.Last, e.Reply,
		} {
			if !yield(text) {
				return
			}
		}
	}
}

// number gives the number's bytes.
func number(n uint64) string { return octet.Put(n, numberSize) }

// Parse gives the entry of the text.
func Parse(t string) (Entry, api.Errno) {
	r := reading{t}
	e := r.entry()
	// Held against the text, as of what isn't one whatever could be read was
	// read.
	if e.Text() != t {
		return Entry{}, api.ErrForm
	}
	return e, api.OK
}

// reading is what is left of a text that is read.
type reading struct{ left string }

// entry reads an entry: each of its parts stands where it is written.
func (r *reading) entry() Entry {
	return Entry{
		Txn: txn.Txn{
			Case: proof.Case{
				Server: r.id(), ACS: r.id(), DS: r.id(),
				Card: r.text(), Amount: r.text(), Currency: r.text(), Date: r.text(), Status: r.text(),
			},
			Version: r.text(), Category: r.text(), To: r.text(), Proof: r.text(), OTP: r.challenge(),
			Phase: int(r.number()), Sent: int(r.number()), Entered: int(r.number()), Next: r.number(),
		},
		Seq: r.number(), First: r.text(), Sum: r.text(), Last: r.text(), Reply: r.text(),
	}
}

// text reads a text; the empty one, where there is none.
func (r *reading) text() string {
	text, left, _ := octet.Cut(r.left)
	r.left = left
	return text
}

// id reads an id.
func (r *reading) id() (u api.UUID) {
	copy(u[:], r.text())
	return u
}

// number reads a number.
func (r *reading) number() uint64 {
	n, _ := octet.Get(r.text())
	return n
}

// challenge reads a challenge.
func (r *reading) challenge() otp.State {
	s, _ := otp.Parse(r.text())
	return s
}
