package desk_test

import (
	"bytes"
	"fmt"
	"math/rand/v2"
	"slices"
	"strconv"
	"strings"
	"testing"

	"cashier/api"
	"cashier/book"
	"cashier/desk"
	"cashier/ids"
	"cashier/message"
	"cashier/proof"
	"cashier/serial"
	"cashier/txn"
)

// model is a desk in another way: its entries in no order, changed in place.
type model struct {
	set      txn.Setting
	dir      serial.Directory
	entries  []*book.Entry
	now, seq uint64

	// Of the step under way.
	outs          []desk.Out
	used          int
	changed, gone []api.UUID
}

// newModel gives the model of a desk.
func newModel(d desk.Desk) *model {
	m := &model{set: d.Set, dir: d.Dir, now: d.Now, seq: d.Seq}
	for e := range d.Book.All() {
		m.entries = append(m.entries, &e)
	}
	return m
}

// desk gives the desk of which it is.
func (m *model) desk() desk.Desk {
	d := desk.Desk{Set: m.set, Dir: m.dir, Now: m.now, Seq: m.seq}
	for _, e := range m.entries {
		d.Book, _, _ = d.Book.Put(*e)
	}
	return d
}

// out lets a message go out.
func (m *model) out(to string, what message.Message) string {
	s, f := what.Text()
	if f != (message.Fault{}) {
		panic(fmt.Sprint(f))
	}
	m.outs = append(m.outs, desk.Out{To: to, Text: s})
	return s
}

// erro tells a fault of what has these fields.
func (m *model) erro(code, detail string, has map[string]string) {
	e := message.New(7).With("errorCode", code).With("errorComponent", "D").With("errorDetail", detail).With("errorDescription", map[string]string{
		"101": "message not recognised", "102": "version not supported", "201": "required field missing", "203": "format not valid", "204": "duplicate field",
		"301": "transaction not known", "305": "transaction data not valid", "403": "system error",
	}[code])
	if has["messageVersion"] == "2.1.0" {
		e = e.With("messageVersion", "2.1.0")
	}
	for _, name := range []string{"threeDSServerTransID", "dsTransID", "acsTransID"} {
		if u, err := ids.Parse(has[name]); err == api.OK && u != (api.UUID{}) {
			e = e.With(name, has[name])
		}
	}
	if has["messageType"] != "" {
		e = e.With("errorMessageType", has["messageType"])
	}
	to := "3ds"
	if has["messageType"] == "CReq" {
		to = "app"
	}
	m.out(to, e)
}

// find gives the entry that is so; nil, where there is none.
func (m *model) find(so func(c proof.Case) bool) *book.Entry {
	for _, e := range m.entries {
		if so(e.Txn.Case) {
			return e
		}
	}
	return nil
}

// take does what the chapter says of a text.
func (m *model) take(s string, draws []string) {
	m.outs, m.used, m.changed, m.gone = nil, 0, nil, nil
	x, _, f := message.Parse(s)
	has := map[string]string{}
	for name, value := range x.Fields() {
		has[name] = value
	}
	if has["messageType"] == "Erro" {
		return
	}
	if f.Code != 0 {
		m.erro(strconv.Itoa(int(f.Code)), f.Field, has)
		return
	}
	if what := has["messageType"]; what == "AReq" {
		m.areq(s, x, has, draws)
	} else if what == "CReq" || what == "RRes" {
		e := m.find(func(c proof.Case) bool {
			return ids.Text(c.Server) == has["threeDSServerTransID"] && ids.Text(c.ACS) == has["acsTransID"] && (what == "CReq" || ids.Text(c.DS) == has["dsTransID"])
		})
		if e == nil {
			m.erro("301", "acsTransID", has)
		} else if what == "RRes" && e.Txn.Phase == 2 {
			e.Txn.Phase = 3
			m.changed = []api.UUID{e.ID()}
		} else if what == "CReq" {
			m.creq(s, x, e)
		}
	} else if what == "PReq" {
		m.preq(has)
	} else {
		m.erro("101", "messageType", has)
	}
}

func (m *model) areq(s string, x message.Message, has map[string]string, draws []string) {
	if e := m.find(func(c proof.Case) bool { return ids.Text(c.Server) == has["threeDSServerTransID"] }); e != nil {
		if e.Sum != sum(s) {
			m.erro("305", "threeDSServerTransID", has)
			return
		}
		was := *e
		if was.Txn.Case.Status = e.First; e.First != "Y" && e.First != "A" {
			was.Txn.Proof = ""
		}
		m.out("3ds", was.Txn.Answer())
		return
	}
	r, ok := m.dir.Table().Find(has["acctNumber"])
	if !ok {
		m.erro("305", "acctNumber", has)
		return
	}
	if v := has["messageVersion"]; v < r.Low || v > r.High { // of these texts the order is that of the versions
		m.erro("102", "messageVersion", has)
		return
	}
	if len(draws) < 2 || len(draws[0]) != 16 || len(draws[1]) != 16 {
		m.erro("403", "", has)
		return
	}
	m.used = 2
	acs, _ := ids.Draw(draws[0])
	ds, _ := ids.Draw(draws[1])
	at := -1
	for i, e := range m.entries {
		if e.Txn.Phase == 3 && (at < 0 || e.Seq < m.entries[at].Seq) {
			at = i
		}
	}
	if m.find(func(c proof.Case) bool { return c.ACS == acs }) != nil || len(m.entries) == 16 && at < 0 {
		m.erro("403", "", has)
		return
	}
	if len(m.entries) == 16 {
		m.gone = []api.UUID{m.entries[at].ID()}
		m.entries = slices.Delete(m.entries, at, at+1)
	}
	t, _ := m.set.Start(x, r, acs, ds, m.now)
	m.seq++
	m.entries = append(m.entries, &book.Entry{Txn: t, Seq: m.seq, First: t.Case.Status, Sum: sum(s)})
	m.changed = []api.UUID{acs}
	m.out("3ds", t.Answer())
}

func (m *model) creq(s string, x message.Message, e *book.Entry) {
	if e.Last == sum(s) {
		m.outs = append(m.outs, desk.Out{To: "app", Text: e.Reply})
		return
	}
	phase := e.Txn.Phase
	t, reply := m.set.Challenge(e.Txn, x, m.now)
	e.Txn, e.Last = t, sum(s)
	e.Reply = m.out("app", reply)
	m.changed = []api.UUID{e.ID()}
	if phase == 1 && t.Phase == 2 {
		m.out("3ds", t.Result())
	}
}

func (m *model) preq(has map[string]string) {
	n, err := strconv.ParseUint(has["serialNum"], 10, 64)
	if err != nil {
		n = 0
	}
	l, known := m.dir.Since(n)
	behind := m.dir.Serial()
	if !known && len(l) > 12 {
		m.erro("403", "", has)
		return
	}
	if known && len(l) > 12 {
		l, behind = l[:12], n+12
	}
	var told []string
	for _, c := range l {
		member := []string{"action", c.Action, "from", c.Range.From}
		if c.Action != "D" {
			member = append(member, "to", c.Range.To, "acs", c.Range.ACS, "low", c.Range.Low, "high", c.Range.High, "mode", strconv.Itoa(c.Range.Mode))
		}
		told = append(told, ordered(member...))
	}
	front := ordered("messageType", "PRes", "messageVersion", has["messageVersion"], "threeDSServerTransID", has["threeDSServerTransID"],
		"dsTransID", ids.Text(ids.Derive(m.set.Key, "DS")), "serialNum", strconv.FormatUint(behind, 10))
	m.outs = []desk.Out{{To: "3ds", Text: strings.TrimSuffix(front, "}") + `,"cardRangeData":[` + strings.Join(told, ",") + "]}"}}
}

// ordered gives the JSON text of names and plain texts, in that order.
func ordered(l ...string) string {
	var parts []string
	for i := 0; i < len(l); i += 2 {
		parts = append(parts, `"`+l[i]+`":"`+l[i+1]+`"`)
	}
	return "{" + strings.Join(parts, ",") + "}"
}

// tick does what the chapter says of time that goes by.
func (m *model) tick(n uint64) {
	m.outs, m.used, m.changed, m.gone = nil, 0, nil, nil
	m.now += min(n, most-m.now)
	due := map[*book.Entry]uint64{}
	var l []*book.Entry
	for _, e := range m.entries {
		at := map[int]uint64{1: e.Txn.OTP.Deadline, 2: e.Txn.Next}[e.Txn.Phase]
		if e.Txn.Phase != 3 && at <= m.now {
			due[e] = at
			l = append(l, e)
		}
	}
	slices.SortFunc(l, func(a, b *book.Entry) int {
		if due[a] != due[b] {
			return map[bool]int{true: -1, false: 1}[due[a] < due[b]]
		}
		return bytes.Compare(a.Txn.Case.ACS[:], b.Txn.Case.ACS[:])
	})
	for _, e := range l {
		t, sent := m.set.Tick(e.Txn, m.now)
		e.Txn = t
		m.changed = append(m.changed, e.ID())
		if sent {
			m.out("3ds", t.Result())
		}
	}
}

// chance hands in whatever comes, by chance.
type chance struct {
	*rand.Rand
	last string
}

// pick gives one of them.
func pick[T any](r chance, l ...T) T { return l[r.IntN(len(l))] }

// coming gives a text, and draws.
func (r *chance) coming(m *model) (string, []string) {
	l := draws(byte(1+r.IntN(60)), byte(1+r.IntN(60)), 90)
	switch r.IntN(24) {
	case 0:
		l = l[:r.IntN(3)]
	case 1:
		l[r.IntN(2)] = "short"
	}
	if r.IntN(5) > 0 {
		r.last = r.fresh(m)
	}
	return r.last, l
}

// fresh gives a text.
func (r *chance) fresh(m *model) string {
	server := byte(1 + r.IntN(40))
	if what := r.IntN(40); what < 12 {
		return request(server, pick(*r, "50", "500", "500", "5000"), "acctNumber", pick(*r, full, full, full, full, attempts, off, nobodys),
			"challengeInd", pick(*r, "", "", "02", "03"), "messageVersion", pick(*r, "2.1.0", "2.2.0", "2.2.0", "2.2.0"))
	} else if what < 14 {
		return wanted(server, "serialNum", pick(*r, "", "0", "3", "13", "30", "99", "99999999999999999999", "01"), "messageVersion", pick(*r, "2.1.0", "2.2.0", "2.3.0"))
	} else if what < 17 || len(m.entries) == 0 {
		return pick(*r, "{}", "", "{", `{"messageType":"CReq"}`, `{"messageType":"Erro"}`, `{"a":1,"a":2}`, whole(7, "2.2.0"), whole(2, "2.1.0"), whole(4, "2.2.0"), whole(5, "2.2.0"), whole(9, "2.1.0"), "\xff")
	}
	e := pick(*r, m.entries...)
	of := []string{"threeDSServerTransID", ids.Text(e.Txn.Case.Server), "acsTransID", ids.Text(e.Txn.Case.ACS)}
	if i := r.IntN(8); i < 2 {
		of[2*i+1] = text(server)
	}
	if r.IntN(4) == 0 {
		return answered(1, 1, 1, append(of, "dsTransID", pick(*r, ids.Text(e.Txn.Case.DS), ids.Text(e.Txn.Case.DS), text(9)))...)
	}
	return said(1, 1, append(of, pick(*r, []string{"challengeDataEntry", code(e.Txn.Case.ACS[0])}, []string{"challengeDataEntry", code(e.Txn.Case.ACS[0])},
		[]string{"challengeDataEntry", pick(*r, "x", "y", "z")}, []string{"challengeDataEntry", pick(*r, "x", "y")}, []string{"challengeCancel", "01"}, nil)...)...)
}

// watch looks at what goes out of one desk: of each transaction one value, none
// but of Y and A (P4).
type watch struct {
	values map[string]string
	seen   map[string]int
}

func (w watch) look(t testing.TB, s desk.Step) {
	t.Helper()
	for _, acs := range s.Gone { // whose draw may come again
		delete(w.values, ids.Text(acs))
	}
	for _, o := range s.Outs {
		m, _, f := message.Parse(o.Text)
		if f != (message.Fault{}) {
			t.Fatalf("what goes out may not be: %q, %v", o, f)
		}
		kind, _ := m.Get("messageType")
		status, _ := m.Get("transStatus")
		code, _ := m.Get("errorCode")
		w.seen[strings.TrimSpace(o.To+" "+kind+" "+status+code)]++
		value, ok := m.Get("authenticationValue")
		acs, _ := m.Get("acsTransID")
		if other, there := w.values[acs]; ok && there && other != value || ok && status != "Y" && status != "A" {
			t.Fatalf("%q has another value than %q", o, other)
		}
		if ok {
			w.values[acs] = value
		}
	}
}

// P27.1, P27.2, P27.4, P2, P4: whatever comes, by chance, held against the
// model; and what comes twice is answered alike to whom it was answered first,
// and does nothing more.
func TestChance(t *testing.T) {
	seen := map[string]int{}
	for run := range uint64(24) {
		r := &chance{Rand: rand.New(rand.NewPCG(27, run))}
		d := fresh(t)
		d.Set.Tries, d.Set.Wait = 1+r.IntN(4), uint64(5+r.IntN(30))
		for range pick(*r, 0, 0, 40) { // so that not all changes are kept
			first, _ := d.Dir.Table().Find(full)
			d.Dir, _ = d.Dir.Do(serial.Change{Action: "M", Range: first})
		}
		m := newModel(d)
		w := watch{map[string]string{}, seen}
		for range 250 {
			if r.IntN(9) == 0 {
				n := pick(*r, uint64(0), 1, 2, 5, 20)
				m.tick(n)
				s := d.Tick(n)
				held(t, "a tick", s, m.desk(), m.outs, 0, m.changed, nil)
				w.look(t, s)
				d = s.Desk
				continue
			}
			text, l := r.coming(m)
			m.take(text, l)
			s := d.Take(text, l...)
			held(t, text, s, m.desk(), m.outs, m.used, m.changed, m.gone)
			w.look(t, s)
			seen[fmt.Sprintf("gone %d", len(s.Gone))]++
			twice(t, text, s)
			if d = s.Desk; d.Book.Len() > 16 || t.Failed() {
				t.Fatalf("there are %d", d.Book.Len())
			}
		}
		ended(t, d)
	}
	for _, what := range []string{
		"3ds ARes Y", "3ds ARes A", "3ds ARes N", "3ds ARes C", "3ds RReq Y", "3ds RReq N", "3ds RReq U", "app CRes", "app CRes Y", "app CRes N", "3ds PRes",
		"3ds Erro 101", "3ds Erro 102", "3ds Erro 203", "3ds Erro 204", "3ds Erro 301", "3ds Erro 305", "3ds Erro 403", "app Erro 201", "app Erro 301", "gone 0", "gone 1",
	} {
		if seen[what] < 5 {
			t.Errorf("of %s there are but %d; in all %v", what, seen[what], seen)
		}
	}
}

// twice takes a text once more, right behind it: unless it was refused for what
// may be otherwise by now, nothing more is done.
func twice(t testing.TB, text string, first desk.Step) {
	t.Helper()
	if first.Used > 0 && len(first.Changed) == 0 {
		return // of its next draws something may come
	}
	n := min(1, len(first.Outs))
	held(t, text, first.Desk.Take(text), first.Desk, first.Outs[:n], 0, nil, nil)
}

// ended lets time go by until all is Done (P5).
func ended(t testing.TB, d desk.Desk) {
	t.Helper()
	for range 10 {
		d = d.Tick(1000).Desk
	}
	for e := range d.Book.All() {
		if e.Txn.Phase != txn.Done {
			t.Errorf("at no end there is %v", e)
		}
	}
}

// P1, P2: whatever text, whatever draws, whatever time goes by.
func FuzzEnds(f *testing.F) {
	for _, s := range []string{
		"", "{}", request(9, "50"), request(9, "500"), request(1, "500"), request(1, "50"), said(1, 2), said(1, 2, "challengeDataEntry", code(2)), said(7, 8, "challengeCancel", "01"),
		answered(1, 2, 3), answered(7, 8, 9), wanted(1), wanted(1, "serialNum", "1"), whole(7, "2.2.0"), whole(4, "2.1.0"), `{"messageType":"CReq","x":[{}]}`,
	} {
		f.Add(s, draw(20), draw(21), uint64(5))
		f.Add(s, draw(2), "", uint64(most))
		f.Add(s, "x", draw(3), uint64(0))
	}
	d := asked(f)
	d = d.Take(said(7, 8, "challengeDataEntry", code(8))).Desk
	f.Fuzz(func(t *testing.T, text, one, two string, n uint64) {
		m := newModel(d)
		m.take(text, []string{one, two})
		s := d.Take(text, one, two)
		held(t, text, s, m.desk(), m.outs, m.used, m.changed, m.gone)
		twice(t, text, s)
		m.tick(n)
		held(t, "a tick", s.Desk.Tick(n), m.desk(), m.outs, 0, m.changed, nil)
		if l, at, ok := desk.Page(d.Dir, n, len(text)%2 == 1); len(l) > 12 || !ok || at > d.Dir.Serial() {
			t.Errorf("Page(%d) = %v, %d, %v", n, l, at, ok)
		}
		ended(t, s.Desk)
	})
}
