package desk_test

import (
	"encoding/json"
	"fmt"
	"maps"
	"math"
	"reflect"
	"slices"
	"strings"
	"testing"

	"cashier/api"
	"cashier/book"
	"cashier/catalog"
	"cashier/desk"
	"cashier/ids"
	"cashier/message"
	"cashier/otp"
	"cashier/proof"
	"cashier/ranges"
	"cashier/risk"
	"cashier/route"
	"cashier/serial"
	"cashier/txn"
)

const (
	most    = math.MaxUint64
	noughts = "00000000-0000-0000-0000-000000000000"

	full     = "4111111111111111" // cards, by their ranges' modes
	attempts = "5105105105105100"
	off      = "5200828282828210"
	nobodys  = "6011111111111117"
)

// id gives an id of that byte alone, and text that id's.
func id(b byte) api.UUID    { return api.UUID([]byte(draw(b))) }
func text(b byte) string    { return ids.Text(id(b)) }
func draw(b byte) string    { return strings.Repeat(string([]byte{b}), 16) }
func drawn(b byte) api.UUID { u, _ := ids.Draw(draw(b)); return u }
func named(b byte) string   { return ids.Text(drawn(b)) }
func code(acs byte) string  { return otp.Code("key", drawn(acs)) }
func sum(s string) string   { return book.Sum(route.Canon(s)) }
func draws(l ...byte) []string {
	var out []string
	for _, b := range l {
		out = append(out, draw(b))
	}
	return out
}

// usual is a setting that may be: what is below 100 goes through, what isn't
// below 1000 doesn't.
func usual() txn.Setting {
	return txn.Setting{
		Key: "key", Policy: risk.Policy{Steps: []uint64{100, 1000}, Codes: []string{"7995"}, Home: "978", Low: 10, High: 20},
		Tries: 2, Wait: 10, Every: 5, Sends: 3,
	}
}

// directory gives one of a range of each mode.
func directory(t testing.TB) (d serial.Directory) {
	t.Helper()
	for i, from := range []string{"40", "51", "52"} {
		r := ranges.Range{
			From: from + strings.Repeat("0", 14), To: from[:1] + strings.Repeat("9", 15), ACS: "acs" + from, Low: "2.1.0", High: "2.2.0", Mode: i + 1,
		}
		if i > 0 {
			r.To = from + strings.Repeat("9", 14)
		}
		var err api.Errno
		if d, err = d.Do(serial.Change{Action: "A", Range: r}); err != api.OK {
			t.Fatal(err)
		}
	}
	return d
}

// fresh gives a desk to which nothing came, at the tick 100.
func fresh(t testing.TB) desk.Desk {
	t.Helper()
	return desk.Desk{Set: usual(), Dir: directory(t), Now: 100}
}

// laid gives the desk with these entries in its book.
func laid(t testing.TB, d desk.Desk, l ...book.Entry) desk.Desk {
	t.Helper()
	for _, e := range l {
		b, gone, err := d.Book.Put(e)
		if err != api.OK || len(gone) > 0 {
			t.Fatal(gone, err)
		}
		d.Book = b
	}
	return d
}

// written gives the JSON text of fields and texts; a field without a text isn't
// there.
func written(l ...string) string {
	fields := map[string]string{}
	for i := 0; i < len(l); i += 2 {
		fields[l[i]] = l[i+1]
		if l[i+1] == "" {
			delete(fields, l[i])
		}
	}
	raw, _ := json.Marshal(fields)
	return string(raw)
}

// request gives an AReq of that server's id and that amount, with others.
func request(server byte, amount string, l ...string) string {
	return written(append([]string{
		"messageType", "AReq", "messageVersion", "2.2.0", "threeDSServerTransID", text(server), "acctNumber", full, "purchaseAmount", amount,
		"purchaseCurrency", "978", "purchaseDate", "20240229235959", "merchantName", "Shop", "mcc", "5411", "deviceChannel", "01", "messageCategory", "01",
	}, l...)...)
}

// said gives a CReq of that server's id and the ACS's of that draw, with others.
func said(server, acs byte, l ...string) string {
	return written(append([]string{
		"messageType", "CReq", "messageVersion", "2.2.0", "threeDSServerTransID", text(server), "acsTransID", named(acs), "challengeWindowSize", "01",
	}, l...)...)
}

// answered gives an RRes of these ids, likewise.
func answered(server, acs, ds byte, l ...string) string {
	return written(append([]string{
		"messageType", "RRes", "messageVersion", "2.2.0", "threeDSServerTransID", text(server), "acsTransID", named(acs), "dsTransID", named(ds), "resultsStatus", "01",
	}, l...)...)
}

// wanted gives a PReq of that server's id, likewise.
func wanted(server byte, l ...string) string {
	return written(append([]string{"messageType", "PReq", "messageVersion", "2.2.0", "threeDSServerTransID", text(server)}, l...)...)
}

// same tells whether two desks are the same.
func same(a, b desk.Desk) bool {
	return reflect.DeepEqual(a.Set, b.Set) && a.Now == b.Now && a.Seq == b.Seq && book.Same(a.Book, b.Book) &&
		a.Dir.Serial() == b.Dir.Serial() && ranges.Same(a.Dir.Table(), b.Dir.Table())
}

// fields gives the members of a text that is an object of strings.
func fields(t testing.TB, s string) map[string]string {
	t.Helper()
	out := map[string]string{}
	if err := json.Unmarshal([]byte(s), &out); err != nil {
		t.Fatalf("%s: %v", s, err)
	}
	return out
}

// held holds a step against the desk then, what goes out, how many draws were
// taken, whose entries were turned, and whose are gone.
func held(t testing.TB, what string, s desk.Step, d desk.Desk, outs []desk.Out, used int, changed, gone []api.UUID) {
	t.Helper()
	if !same(s.Desk, d) {
		t.Errorf("%s: the desk is %v, wanted %v", what, show(s.Desk), show(d))
	}
	if !slices.Equal(s.Outs, outs) {
		t.Errorf("%s: what goes out is\n%q, wanted\n%q", what, s.Outs, outs)
	}
	if s.Used != used || !slices.Equal(s.Changed, changed) || !slices.Equal(s.Gone, gone) {
		t.Errorf("%s: Used %d, Changed %x, Gone %x; wanted %d, %x, %x", what, s.Used, s.Changed, s.Gone, used, changed, gone)
	}
	for _, o := range s.Outs {
		if _, _, f := message.Parse(o.Text); f != (message.Fault{}) || o.To != "3ds" && o.To != "app" {
			t.Errorf("%s: what goes out may not be: %q, %v", what, o, f)
		}
	}
}

func show(d desk.Desk) string {
	return fmt.Sprintf("%d %d %d %+v %+v", d.Now, d.Seq, d.Dir.Serial(), d.Set, slices.Collect(d.Book.All()))
}

// refused takes a text that is answered by an Erro of these fields alone, beside
// the ones that all have, and changes nothing.
func refused(t testing.TB, d desk.Desk, s, to, code, detail string, l ...string) {
	t.Helper()
	drawnFor(t, d, s, to, code, detail, 0, draws(1, 2), l...)
}

// drawnFor is likewise, with draws, of which so many are taken.
func drawnFor(t testing.TB, d desk.Desk, s, to, code, detail string, used int, draws []string, l ...string) {
	t.Helper()
	step := d.Take(s, draws...)
	if len(step.Outs) != 1 {
		t.Fatalf("of %.300s there go out %q", s, step.Outs)
	}
	meanings := map[string]string{
		"101": "message not recognised", "102": "version not supported", "201": "required field missing", "203": "format not valid", "204": "duplicate field",
		"301": "transaction not known", "305": "transaction data not valid", "403": "system error",
	}
	want := map[string]string{"messageType": "Erro", "messageVersion": "2.2.0", "errorCode": code, "errorComponent": "D", "errorDescription": meanings[code], "errorDetail": detail}
	for i := 0; i < len(l); i += 2 {
		want[l[i]] = l[i+1]
	}
	if got := fields(t, step.Outs[0].Text); !maps.Equal(got, want) {
		t.Errorf("%.300s is answered by\n%v, wanted\n%v", s, got, want)
	}
	held(t, s, step, d, []desk.Out{{To: to, Text: step.Outs[0].Text}}, used, nil, nil)
}

// P27.1: of a text that has a fault, an Erro of that, to 3ds, but of a CReq to
// app.
func TestFaults(t *testing.T) {
	d := fresh(t)
	refused(t, d, "{}", "3ds", "101", "messageType")
	for _, s := range []string{"", "x", "{", "[1", "\xff", `{"messageType":"CReq"`, `"\ud800"`, strings.Repeat("[", 9) + strings.Repeat("]", 9), strings.Repeat(" ", 4096) + "{}"} {
		refused(t, d, s, "3ds", "101", "")
	}
	for _, s := range []string{"[]", "null", `"AReq"`, "1", `{"messageType":1}`, `{"messageType":"areq"}`, `{"messageType":"x","messageVersion":"2.1.0"}`} {
		refused(t, d, s, "3ds", "101", "messageType")
	}
	refused(t, d, `{"messageType":"CReq","a":1,"\u0061":2}`, "3ds", "204", "") // whose kind nobody knows
	refused(t, d, request(1, "50", "mcc", ""), "3ds", "201", "mcc", "threeDSServerTransID", text(1), "errorMessageType", "AReq")
	refused(t, d, request(1, "50", "mcc", "541"), "3ds", "203", "mcc", "threeDSServerTransID", text(1), "errorMessageType", "AReq")
	refused(t, d, request(1, "50", "messageVersion", ""), "3ds", "201", "messageVersion", "threeDSServerTransID", text(1), "errorMessageType", "AReq")
	refused(t, d, request(1, "50", "messageVersion", "2.3.0"), "3ds", "102", "messageVersion", "threeDSServerTransID", text(1), "errorMessageType", "AReq")
	refused(t, d, request(1, "50", "acctNumber", full[:15]+"2"), "3ds", "203", "acctNumber", "threeDSServerTransID", text(1), "errorMessageType", "AReq")
	refused(t, d, request(1, "50", "threeDSServerTransID", noughts), "3ds", "203", "threeDSServerTransID", "errorMessageType", "AReq")
	refused(t, d, said(1, 2, "challengeWindowSize", ""), "app", "201", "challengeWindowSize", "threeDSServerTransID", text(1), "acsTransID", named(2), "errorMessageType", "CReq")
	refused(t, d, said(1, 2, "challengeCancel", "09"), "app", "203", "challengeCancel", "threeDSServerTransID", text(1), "acsTransID", named(2), "errorMessageType", "CReq")
	refused(t, d, said(1, 2, "challengeCancel", "01", "challengeDataEntry", "1"), "app", "203", "challengeCancel", "threeDSServerTransID", text(1), "acsTransID", named(2), "errorMessageType", "CReq")
	refused(t, d, `{"messageType":"CReq"}`, "app", "201", "messageVersion", "errorMessageType", "CReq")
	refused(t, d, answered(1, 2, 3, "resultsStatus", "", "messageVersion", "2.1.0"), "3ds", "201", "resultsStatus",
		"messageVersion", "2.1.0", "threeDSServerTransID", text(1), "acsTransID", named(2), "dsTransID", named(3), "errorMessageType", "RRes")
	refused(t, d, wanted(1, "serialNum", "x"), "3ds", "203", "serialNum", "threeDSServerTransID", text(1), "errorMessageType", "PReq")
	refused(t, d, written("messageType", "CRes", "messageVersion", "2.1.0"), "3ds", "201", "threeDSServerTransID", "messageVersion", "2.1.0", "errorMessageType", "CRes")
}

// whole gives a message of that kind that may be, of that version.
func whole(kind int, version string) string {
	name := catalog.Messages()[kind]
	l := []string{"messageType", name, "messageVersion", version}
	values := map[string]string{
		"threeDSServerTransID": text(1), "acsTransID": named(2), "dsTransID": named(3), "messageCategory": "01", "transStatus": "N",
		"challengeCompletionInd": "N", "interactionCounter": "00", "resultsStatus": "01", "errorCode": "101", "errorComponent": "S",
		"errorDescription": "x", "errorDetail": "y", "serialNum": "0", "challengeWindowSize": "01",
	}
	for f, required := range catalog.Of(kind) {
		if value, ok := values[f.Name]; ok && required {
			l = append(l, f.Name, value)
		}
	}
	return written(l...)
}

// P27.1: a kind that isn't taken is answered by NotKnown, of messageType.
func TestNotTaken(t *testing.T) {
	d := fresh(t)
	d = d.Take(request(1, "500"), draws(2, 3)...).Desk
	for _, version := range []string{"2.1.0", "2.2.0"} {
		for _, kind := range []int{catalog.ARes, catalog.CRes, catalog.RReq, catalog.PRes} {
			s := whole(kind, version)
			if _, _, f := message.Parse(s); f != (message.Fault{}) {
				t.Fatalf("%s may not be: %v", s, f)
			}
			about := []string{"messageVersion", version, "threeDSServerTransID", text(1), "errorMessageType", catalog.Messages()[kind]}
			if kind != catalog.PRes {
				about = append(about, "acsTransID", named(2))
			}
			if kind != catalog.CRes {
				about = append(about, "dsTransID", named(3))
			}
			refused(t, d, s, "3ds", "101", "messageType", about...)
		}
	}
}

// still takes a text to which nothing is answered, and by which nothing is
// done.
func still(t testing.TB, d desk.Desk, s string, draws ...string) {
	t.Helper()
	held(t, s, d.Take(s, draws...), d, nil, 0, nil, nil)
}

// P27.1: to an Erro nothing, whatever is wrong with it, where its kind is known.
func TestErros(t *testing.T) {
	d := fresh(t)
	d = d.Take(request(1, "500"), draws(2, 3)...).Desk
	for _, s := range []string{
		whole(catalog.Erro, "2.2.0"), whole(catalog.Erro, "2.1.0"), whole(catalog.Erro, "2.3.0"), `{"messageType":"Erro"}`, `{"messageType":"Erro","messageVersion":1}`,
		` { "x" : [ 1 ], "messageType":"Err\u006f","errorCode":"x"}`, written("messageType", "Erro", "messageVersion", "2.2.0", "threeDSServerTransID", text(1), "acsTransID", named(2)),
	} {
		still(t, d, s)
		still(t, d, s, draws(4, 5)...)
	}
	refused(t, d, `{"messageType":"Erro","messageType":"Erro"}`, "3ds", "204", "")
	refused(t, d, `{"messageType":"Erro"`, "3ds", "101", "")
	refused(t, d, `{"messageType":"Erro","x":"`+strings.Repeat("x", 4096)+`"}`, "3ds", "101", "")
}

// started gives the entry of a request, and its answer.
func started(t testing.TB, d desk.Desk, s string, acs, ds byte) (book.Entry, string) {
	t.Helper()
	m, _, _ := message.Parse(s)
	card, _ := m.Get("acctNumber")
	r, _ := d.Dir.Table().Find(card)
	x, err := d.Set.Start(m, r, drawn(acs), drawn(ds), d.Now)
	if err != api.OK {
		t.Fatal(err)
	}
	answer, _ := x.Answer().Text()
	return book.Entry{Txn: x, Seq: d.Seq + 1, First: x.Case.Status, Sum: sum(s)}, answer
}

// P27.1: a request that isn't known, in full: its entry, its answer.
func TestRequestTold(t *testing.T) {
	d, s := fresh(t), request(1, "50")
	c := proof.Case{Server: id(1), ACS: drawn(2), DS: drawn(3), Card: full, Amount: "50", Currency: "978", Date: "20240229235959", Status: "Y"}
	value := c.Value("key")
	want := d
	want.Seq = 1
	want = laid(t, want, book.Entry{
		Txn: txn.Txn{Case: c, Version: "2.2.0", Category: "01", To: "acs40", Proof: value, Phase: txn.Done}, Seq: 1, First: "Y", Sum: sum(s),
	})
	out := `{"messageType":"ARes","messageVersion":"2.2.0","threeDSServerTransID":"` + text(1) + `","dsTransID":"` + named(3) + `","acsTransID":"` + named(2) +
		`","transStatus":"Y","authenticationValue":"` + value + `"}`
	held(t, s, d.Take(s, draws(2, 3)...), want, []desk.Out{{To: "3ds", Text: out}}, 2, []api.UUID{drawn(2)}, nil)
	if got := named(2); got != "02020202-0202-4202-8202-020202020202" {
		t.Errorf("of the draw the ACS's id is %s", got)
	}
}

// P27.1: requests of all statuses, at any tick, with more draws than are taken.
func TestRequests(t *testing.T) {
	for s, status := range map[string]string{
		request(1, "50"): "Y", request(1, "500"): "C", request(1, "5000"): "N", request(1, "50", "challengeInd", "03"): "C", request(1, "50", "acctNumber", attempts): "A",
		request(1, "50", "acctNumber", off): "N", request(1, "50", "mcc", "7995"): "N", request(1, "50", "messageVersion", "2.1.0", "messageCategory", "02"): "Y", "\n " + request(1, "50") + " ": "Y",
		strings.Replace(request(1, "50"), `{`, `{"more":[{"x":null}],`, 1): "Y",
	} {
		for _, now := range []uint64{0, 100, most - 1, most} {
			for _, seq := range []uint64{0, 41, most - 1} {
				d := fresh(t)
				d.Now, d.Seq = now, seq
				e, answer := started(t, d, s, 9, 8)
				if e.First != status {
					t.Errorf("%s: the status is %s", s, e.First)
				}
				want := laid(t, d, e)
				want.Seq++
				for _, l := range [][]string{draws(9, 8), draws(9, 8, 7, 6, 5), {draw(9), draw(8), "", "short"}} {
					held(t, s, d.Take(s, l...), want, []desk.Out{{To: "3ds", Text: answer}}, 2, []api.UUID{drawn(9)}, nil)
				}
			}
		}
	}
}

// The ends of numbers: Seq stays at the greatest one.
func TestSeqEnds(t *testing.T) {
	d, s := fresh(t), request(1, "50")
	d.Seq = most
	e, answer := started(t, d, s, 2, 3)
	e.Seq = most
	held(t, s, d.Take(s, draws(2, 3)...), laid(t, d, e), []desk.Out{{To: "3ds", Text: answer}}, 2, []api.UUID{drawn(2)}, nil)
}

// P27.1: one that is known is answered as it was first, whatever became of it;
// another one of its id is refused.
func TestRequestAgain(t *testing.T) {
	for _, amount := range []string{"50", "500", "5000"} {
		s := request(1, amount)
		first := fresh(t).Take(s, draws(2, 3)...)
		later := first.Desk.Tick(3).Desk
		steps := []desk.Desk{first.Desk, later}
		for _, l := range [][]string{{"challengeDataEntry", code(2)}, {"challengeDataEntry", "x"}, {"challengeCancel", "01"}} {
			over := later.Take(said(1, 2, l...)).Desk
			steps = append(steps, over, over.Take(answered(1, 2, 3)).Desk, over.Tick(100).Desk, over.Tick(100).Desk.Tick(100).Desk)
		}
		for _, d := range steps {
			for _, again := range []string{s, " " + s + "\n", strings.ReplaceAll(s, `","`, "\" , \t\""), strings.Replace(s, "AReq", `A\u0052eq`, 1)} {
				for _, l := range [][]string{nil, draws(2, 3), draws(7, 8), {"", ""}} {
					held(t, again, d.Take(again, l...), d, first.Outs, 0, nil, nil)
				}
			}
			for _, other := range []string{
				request(1, amount+"0"), request(1, amount, "merchantName", "Shop2"), request(1, amount, "acctType", "01"), request(1, amount, "acctNumber", nobodys),
				strings.Replace(s, "{", `{"more":1,`, 1),
			} {
				refused(t, d, other, "3ds", "305", "threeDSServerTransID", "threeDSServerTransID", text(1), "errorMessageType", "AReq")
			}
		}
	}
}

// P27.1: the order of members makes no difference to what is known.
func TestRequestTurned(t *testing.T) {
	s := request(1, "500")
	var members []string
	for name, value := range fields(t, s) {
		members = append(members, fmt.Sprintf("%q:%q", name, value))
	}
	slices.Sort(members)
	first := fresh(t).Take(s, draws(2, 3)...)
	for range len(members) {
		members = append(members[1:], members[0])
		again := "{" + strings.Join(members, ",") + "}"
		held(t, again, first.Desk.Take(again), first.Desk, first.Outs, 0, nil, nil)
	}
}

// P27.1: a card that no range has; a version that isn't its range's; draws that
// aren't there: which is told first.
func TestRequestRefused(t *testing.T) {
	d := fresh(t)
	about := []string{"threeDSServerTransID", text(1), "errorMessageType", "AReq"}
	old := append([]string{"messageVersion", "2.1.0"}, about...)
	for _, l := range [][]string{nil, draws(2, 3), {"", ""}} {
		drawnFor(t, d, request(1, "50", "acctNumber", nobodys), "3ds", "305", "acctNumber", 0, l, about...)
		drawnFor(t, d, request(1, "50", "acctNumber", nobodys, "messageVersion", "2.1.0"), "3ds", "305", "acctNumber", 0, l, old...)
		drawnFor(t, d, request(1, "50", "acctNumber", "4000000000006"), "3ds", "305", "acctNumber", 0, l, about...) // of 13 digits
		drawnFor(t, desk.Desk{Set: d.Set}, request(1, "50"), "3ds", "305", "acctNumber", 0, l, about...)
		for _, v := range []struct{ low, high string }{{"2.1.0", "2.1.9"}, {"2.2.1", "2.3.0"}, {"0.0.0", "2.1.65535"}, {"2.2.1", "2.2.1"}} {
			drawnFor(t, ranged(t, d, v.low, v.high), request(1, "50"), "3ds", "102", "messageVersion", 0, l, about...)
		}
		drawnFor(t, ranged(t, d, "2.1.1", "2.2.0"), request(1, "50", "messageVersion", "2.1.0"), "3ds", "102", "messageVersion", 0, l, old...)
	}
	for _, v := range []struct{ low, high string }{{"2.2.0", "2.2.0"}, {"2.1.1", "2.2.1"}, {"0.0.0", "9.9.9"}} {
		if s := ranged(t, d, v.low, v.high).Take(request(1, "50"), draws(2, 3)...); s.Used != 2 || s.Desk.Seq != 1 {
			t.Errorf("of a range from %s to %s there is %q", v.low, v.high, s.Outs)
		}
	}
	for _, l := range [][]string{nil, {}, draws(2), {draw(2), ""}, {"", draw(2)}, {draw(2), draw(3)[1:]}, {draw(2) + "2", draw(3)}, {draw(2)[1:], draw(3), draw(4)}, {draw(2), draw(3) + "3", draw(4)}, {"", draw(3), draw(4)}} {
		drawnFor(t, d, request(1, "50"), "3ds", "403", "", 0, l, about...)
		drawnFor(t, d, request(1, "500", "messageVersion", "2.1.0"), "3ds", "403", "", 0, l, old...)
	}
}

// ranged gives the desk with a range of these versions alone.
func ranged(t testing.TB, d desk.Desk, low, high string) desk.Desk {
	t.Helper()
	r := ranges.Range{From: "4000000000000000", To: "4999999999999999", ACS: "acs", Low: low, High: high, Mode: 1}
	var err api.Errno
	if d.Dir, err = (serial.Directory{}).Do(serial.Change{Action: "A", Range: r}); err != api.OK {
		t.Fatal(err)
	}
	return d
}

// filled gives a desk whose book is full of transactions by their servers' ids
// from 101 on, the ACS's of the draws from 201 on; each of those that are Done
// is of the status N.
func filled(t testing.TB, done ...byte) desk.Desk {
	t.Helper()
	d := fresh(t)
	for i := range byte(api.MaxTxns) {
		amount := "500"
		if slices.Contains(done, i) {
			amount = "5000"
		}
		s := d.Take(request(101+i, amount), draws(201+i, 250)...)
		if len(s.Gone) > 0 || s.Desk.Book.Len() != int(i)+1 {
			t.Fatalf("there are %d, gone %x", s.Desk.Book.Len(), s.Gone)
		}
		d = s.Desk
	}
	return d
}

// P27.1: an ACS's id that the book has, and a book that is full: System, though
// the draws were taken.
func TestRequestNoRoom(t *testing.T) {
	about := []string{"threeDSServerTransID", text(1), "errorMessageType", "AReq"}
	for _, d := range []desk.Desk{filled(t), filled(t, 0, 1), fresh(t).Take(request(101, "50"), draws(201, 3)...).Desk} {
		drawnFor(t, d, request(1, "50"), "3ds", "403", "", 2, draws(201, 3), about...)
		drawnFor(t, d, request(1, "50"), "3ds", "403", "", 2, draws(201, 202, 203), about...)
	}
	drawnFor(t, filled(t), request(1, "50"), "3ds", "403", "", 2, draws(2, 3), about...)
	drawnFor(t, filled(t), request(1, "500"), "3ds", "403", "", 2, draws(2, 3, 4, 5), about...)
	told := filled(t)
	told = told.Tick(told.Set.Wait).Desk // their results are sent: none is Done
	drawnFor(t, told, request(1, "50"), "3ds", "403", "", 2, draws(2, 3), about...)
	both := fresh(t).Take(request(1, "50"), draws(7, 7)...) // one draw may be both
	if e, ok := both.Desk.Book.Of(id(1)); !ok || e.Txn.Case.ACS != drawn(7) || e.Txn.Case.DS != drawn(7) {
		t.Errorf("of one draw twice there is %q", both.Outs)
	}
}

// P27.1: of a full book the one of the lowest number of those that are Done
// goes.
func TestRequestGone(t *testing.T) {
	for _, done := range [][]byte{{0}, {15}, {7, 3, 11}, {15, 14}} {
		d, s := filled(t, done...), request(1, "500")
		e, answer := started(t, d, s, 2, 3)
		old := 201 + slices.Min(done)
		want := desk.Desk{Set: d.Set, Dir: d.Dir, Now: d.Now, Seq: 17}
		for other := range d.Book.All() {
			if other.ID() != drawn(old) {
				want = laid(t, want, other)
			}
		}
		held(t, s, d.Take(s, draws(2, 3)...), laid(t, want, e), []desk.Out{{To: "3ds", Text: answer}}, 2, []api.UUID{drawn(2)}, []api.UUID{drawn(old)})
		held(t, s, d.Take(s, draws(201, 3)...), d, d.Take(s).Outs, 2, nil, nil) // nothing goes for one that is refused
	}
}

// P27.3: DS is layer 10's Derive by the Key, of DS.
func TestDS(t *testing.T) {
	for _, key := range []string{"key", "k", strings.Repeat("\xff", 64), ""} {
		d := desk.Desk{Set: txn.Setting{Key: key}, Now: 7}
		if got := d.DS(); got != ids.Derive(key, "DS") || ids.Version(got) != 4 {
			t.Errorf("by the key %q DS() = %x", key, got)
		}
	}
}

// The rule of memory: nothing that is handed in is changed, and a step shares
// nothing with it, nor with another one.
func TestStays(t *testing.T) {
	d := fresh(t).Take(request(1, "500"), draws(2, 3)...).Desk
	d = d.Take(request(4, "5000"), draws(5, 6)...).Desk
	before := d
	before.Set.Policy.Steps, before.Set.Policy.Codes = slices.Clone(d.Set.Policy.Steps), slices.Clone(d.Set.Policy.Codes)
	entries := slices.Collect(d.Book.All())
	l := append(make([]string, 0, 9), draws(7, 8, 9)...)
	for _, do := range []func() desk.Step{
		func() desk.Step { return d.Take(request(7, "50"), l...) }, func() desk.Step { return d.Take(request(1, "500"), l...) }, func() desk.Step { return d.Take("{}", l...) },
		func() desk.Step { return d.Take(said(1, 2, "challengeDataEntry", code(2))) }, func() desk.Step { return d.Take(answered(1, 2, 3)) },
		func() desk.Step { return d.Take(wanted(1)) }, func() desk.Step { return d.Take(whole(catalog.Erro, "2.2.0")) }, func() desk.Step { return d.Tick(100) }, func() desk.Step { return d.Tick(0) },
	} {
		one, two := do(), do()
		spoil(&one)
		if !same(d, before) || !slices.Equal(slices.Collect(d.Book.All()), entries) || !slices.Equal(l, draws(7, 8, 9)) || !slices.Equal(l[:9][3:], make([]string, 6)) {
			t.Fatal("what was handed in was changed")
		}
		if three := do(); !reflect.DeepEqual(two.Outs, three.Outs) || !same(two.Desk, three.Desk) || !slices.Equal(two.Changed, three.Changed) {
			t.Errorf("the same step is another one: %q, %q", two.Outs, three.Outs)
		}
	}
}

// spoil writes into all lists that a step has.
func spoil(s *desk.Step) {
	for i := range s.Desk.Set.Policy.Steps {
		s.Desk.Set.Policy.Steps[i] = 7
	}
	for i := range s.Desk.Set.Policy.Codes {
		s.Desk.Set.Policy.Codes[i] = "x"
	}
	for i := range s.Outs {
		s.Outs[i] = desk.Out{}
	}
	for i := range s.Changed {
		s.Changed[i] = api.UUID{}
	}
	_ = append(s.Gone, api.UUID{})
}
