package desk

import (
	"cashier/api"
	"cashier/book"
	"cashier/ids"
	"cashier/message"
	"cashier/octet"
	"cashier/route"
	"cashier/txn"
	"cashier/version"
)

// drawsTaken is how many draws a request takes: for the ACS's id, and for the
// directory's.
const drawsTaken = 2

// coming is a message that came, as which text, beside which draws.
type coming struct {
	m     message.Message
	text  string
	draws []string
}

// sum gives what tells whether the same comes again.
func (c coming) sum() string { return book.Sum(route.Canon(c.text)) }

// field gives the field's text; the empty one, where it isn't there.
func (c coming) field(name string) string {
	text, _ := c.m.Get(name)
	return text
}

// authenticate serves an AReq.
func (d Desk) authenticate(c coming) Step {
	e, code := route.Find(d.Book, c.m)
	if code != api.Fine {
		return d.begin(c)
	}
	if e.Sum != c.sum() {
		return d.refuse(c.m, api.Conflict, serverField)
	}
	s := d.still()
	s.send(toServer, e.Began().Answer())
	return s
}

// begin serves an AReq that isn't known.
func (d Desk) begin(c coming) Step {
	r, ok := d.Dir.Table().Find(c.field(cardField))
	if !ok {
		return d.refuse(c.m, api.Conflict, cardField)
	}
	if !version.Within(c.field(versionField), r.Low, r.High) {
		return d.refuse(c.m, api.NoVersion, versionField)
	}
	acs, ds, ok := drawn(c.draws)
	if !ok {
		return d.refuse(c.m, api.System, noField)
	}
	t, _ := d.Set.Start(c.m, r, acs, ds, d.Now) // of a request that may be there is no error
	s := d.enter(c, t)
	s.Used = drawsTaken // of one that is refused by now, too
	return s
}

// drawn gives the ids of the first two draws, and whether there are such.
func drawn(draws []string) (acs, ds api.UUID, ok bool) {
	if len(draws) < drawsTaken {
		return acs, ds, false
	}
	acs, errACS := ids.Draw(draws[0])
	ds, errDS := ids.Draw(draws[1])
	return acs, ds, errACS == api.OK && errDS == api.OK
}

// enter gives the step by which a transaction that was begun is in the book.
func (d Desk) enter(c coming, t txn.Txn) Step {
	e := book.Entry{Txn: t, Seq: octet.Add(d.Seq, 1), First: t.Case.Status, Sum: c.sum()}
	with, gone, err := d.Book.Put(e)
	// Asked, as Put would take it in place of the one that is there.
	if _, there := d.Book.Get(e.ID()); there || err != api.OK {
		return d.refuse(c.m, api.System, noField)
	}
	s := d.still()
	s.Desk.Book, s.Desk.Seq = with, e.Seq
	s.Changed, s.Gone = []api.UUID{e.ID()}, gone
	s.send(toServer, t.Answer())
	return s
}

// challenge serves a CReq.
func (d Desk) challenge(c coming) Step {
	e, code := route.Find(d.Book, c.m)
	if code != api.Fine {
		return d.refuse(c.m, code, acsField)
	}
	s, sum := d.still(), c.sum()
	if e.Last == sum {
		s.say(toApp, e.Reply)
		return s
	}
	then, reply := d.Set.Challenge(e.Txn, c.m, d.Now)
	told := then.Phase == txn.Told && e.Txn.Phase != txn.Told
	e.Txn, e.Last, e.Reply = then, sum, textOf(reply)
	s.turn(e)
	s.say(toApp, e.Reply)
	if told {
		s.send(toServer, then.Result())
	}
	return s
}

// acknowledge serves an RRes.
func (d Desk) acknowledge(c coming) Step {
	e, code := route.Find(d.Book, c.m)
	if code != api.Fine {
		return d.refuse(c.m, code, acsField)
	}
	s := d.still()
	e.Txn = e.Txn.Answered()
	s.turn(e)
	return s
}
