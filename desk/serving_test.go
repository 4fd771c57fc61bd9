package desk_test

import (
	"slices"
	"strings"
	"testing"

	"cashier/api"
	"cashier/book"
	"cashier/catalog"
	"cashier/desk"
	"cashier/message"
	"cashier/txn"
)

// asked gives a desk at the tick 103 with a challenge that was begun at 100,
// beside others.
func asked(t testing.TB) desk.Desk {
	t.Helper()
	d := fresh(t)
	for i, s := range []string{request(4, "50"), request(1, "500"), request(7, "500")} {
		d = d.Take(s, draws([]byte{5, 2, 8}[i], []byte{6, 3, 9}[i])...).Desk
	}
	return d.Tick(3).Desk
}

// of gives the entry of that server's id.
func of(t testing.TB, d desk.Desk, server byte) book.Entry {
	t.Helper()
	e, ok := d.Book.Of(id(server))
	if !ok {
		t.Fatalf("there is no entry of %d", server)
	}
	return e
}

// with gives the desk with that entry in place of the one of its id.
func with(t testing.TB, d desk.Desk, e book.Entry) desk.Desk {
	t.Helper()
	b, gone, err := d.Book.Put(e)
	if err != api.OK || len(gone) > 0 {
		t.Fatal(gone, err)
	}
	d.Book = b
	return d
}

func must(t testing.TB, m message.Message) string {
	t.Helper()
	s, f := m.Text()
	if f != (message.Fault{}) {
		t.Fatal(f)
	}
	return s
}

// P27.1: what is said to a challenge, in full: the entry then, the reply, and
// the result, where it is told by that.
func TestChallengeTold(t *testing.T) {
	d := asked(t)
	about := `"messageVersion":"2.2.0","threeDSServerTransID":"` + text(1) + `"`
	ongoing := `{"messageType":"CRes",` + about + `,"acsTransID":"` + named(2) + `","challengeCompletionInd":"N"}`
	ended := func(status string) string {
		return `{"messageType":"CRes",` + about + `,"acsTransID":"` + named(2) + `","transStatus":"` + status + `","challengeCompletionInd":"Y"}`
	}
	result := func(status, value, counter string) string {
		return `{"messageType":"RReq",` + about + `,"dsTransID":"` + named(3) + `","acsTransID":"` + named(2) + `","messageCategory":"01","transStatus":"` + status + `"` + value + `,"interactionCounter":"` + counter + `"}`
	}
	c := of(t, d, 1).Txn.Case
	c.Status = "Y"
	value := `,"authenticationValue":"` + c.Value("key") + `"`
	for _, x := range []struct {
		late                      bool
		said                      []string
		reply, result             string
		phase, tries, over, tried int
		status                    string
	}{
		{false, nil, ongoing, "", txn.Asked, 2, 0, 0, "C"},
		{false, []string{"challengeDataEntry", "x"}, ongoing, "", txn.Asked, 1, 0, 1, "C"},
		{false, []string{"challengeDataEntry", code(2)}, ended("Y"), result("Y", value, "01"), txn.Told, 2, 1, 1, "Y"},
		{false, []string{"challengeCancel", "01"}, ended("N"), result("N", "", "00"), txn.Told, 2, 4, 0, "N"},
		{true, nil, ended("N"), result("U", "", "00"), txn.Told, 2, 3, 0, "U"},
		{true, []string{"challengeDataEntry", code(2)}, ended("N"), result("U", "", "01"), txn.Told, 2, 3, 1, "U"},
		{true, []string{"challengeCancel", "08"}, ended("N"), result("U", "", "00"), txn.Told, 2, 3, 0, "U"},
	} {
		d := d
		if x.late {
			d.Now = 110
		}
		s := said(1, 2, x.said...)
		e := of(t, d, 1)
		e.Last, e.Reply = sum(s), x.reply
		e.Txn.Phase, e.Txn.OTP.Tries, e.Txn.OTP.Over, e.Txn.Entered, e.Txn.Case.Status = x.phase, x.tries, x.over, x.tried, x.status
		outs := []desk.Out{{To: "app", Text: x.reply}}
		if x.result != "" {
			e.Txn.Sent, e.Txn.Next = 1, d.Now+5
			outs = append(outs, desk.Out{To: "3ds", Text: x.result})
		}
		if x.status == "Y" {
			e.Txn.Proof = c.Value("key")
		}
		for _, l := range [][]string{nil, draws(50, 51)} {
			held(t, s, d.Take(s, l...), with(t, d, e), outs, 0, []api.UUID{drawn(2)}, nil)
		}
	}
}

// P27.1: two wrong codes of two, and the right one then changes nothing.
func TestChallengeOut(t *testing.T) {
	d := asked(t)
	first := d.Take(said(1, 2, "challengeDataEntry", "x"))
	second := first.Desk.Take(said(1, 2, "challengeDataEntry", "y"))
	e := of(t, second.Desk, 1)
	if e.Txn.Case.Status != "N" || e.Txn.Phase != txn.Told || e.Txn.Proof != "" || len(first.Outs) != 1 || len(second.Outs) != 2 {
		t.Errorf("behind two wrong codes there is %v", e)
	}
	reply := fields(t, second.Outs[0].Text)
	if reply["transStatus"] != "N" || fields(t, second.Outs[1].Text)["transStatus"] != "N" || fields(t, second.Outs[1].Text)["interactionCounter"] != "02" {
		t.Errorf("what goes out is %q", second.Outs)
	}
	s := said(1, 2, "challengeDataEntry", code(2))
	e.Last = sum(s)
	held(t, s, second.Desk.Take(s), with(t, second.Desk, e), second.Outs[:1], 0, []api.UUID{drawn(2)}, nil)
}

// P27.1: one more text behind the end: the transaction is as it was, the entry
// knows the text; no result.
func TestChallengeEnded(t *testing.T) {
	told := asked(t).Take(said(1, 2, "challengeDataEntry", code(2)))
	for _, d := range []desk.Desk{told.Desk, told.Desk.Take(answered(1, 2, 3)).Desk, told.Desk.Tick(2).Desk, told.Desk.Tick(50).Desk} {
		for _, l := range [][]string{nil, {"challengeDataEntry", "x"}, {"challengeCancel", "02"}, {"challengeDataEntry", code(2), "challengeWindowSize", "02"}} {
			s := said(1, 2, l...)
			e := of(t, d, 1)
			e.Last = sum(s)
			held(t, s, d.Take(s), with(t, d, e), told.Outs[:1], 0, []api.UUID{drawn(2)}, nil)
		}
	}
	s := said(4, 5, "challengeDataEntry", code(5)) // of what went through at once
	d := asked(t)
	e := of(t, d, 4)
	e.Last, e.Reply = sum(s), `{"messageType":"CRes","messageVersion":"2.2.0","threeDSServerTransID":"`+text(4)+`","acsTransID":"`+named(5)+`","transStatus":"Y","challengeCompletionInd":"Y"}`
	held(t, s, d.Take(s), with(t, d, e), []desk.Out{{To: "app", Text: e.Reply}}, 0, []api.UUID{drawn(5)}, nil)
}

// P27.1: what came last is answered by the reply to it, and does nothing; what
// came ahead of that counts anew.
func TestChallengeAgain(t *testing.T) {
	d := asked(t)
	for _, l := range [][]string{nil, {"challengeDataEntry", "x"}, {"challengeDataEntry", code(2)}, {"challengeCancel", "01"}} {
		s := said(1, 2, l...)
		first := d.Take(s)
		for _, then := range []desk.Desk{first.Desk, first.Desk.Tick(1).Desk, first.Desk.Tick(100).Desk, first.Desk.Take(answered(1, 2, 3)).Desk} {
			for _, again := range []string{s, "\t" + s + " ", strings.ReplaceAll(s, `":"`, `" : "`), strings.Replace(s, "CReq", `CRe\u0071`, 1)} {
				held(t, again, then.Take(again, draws(70, 71)...), then, first.Outs[:1], 0, nil, nil)
			}
		}
	}
	x, y := said(1, 2, "challengeDataEntry", "x"), said(1, 2, "challengeDataEntry", "y")
	d.Set.Tries = 9
	e := of(t, d, 1)
	e.Txn.OTP.Tries = 9
	d = with(t, d, e)
	for i, s := range []string{x, x, y, y, x, x, x} {
		d = d.Take(s).Desk
		if got, want := of(t, d, 1).Txn.OTP.Tries, 9-[]int{1, 1, 2, 2, 3, 3, 3}[i]; got != want {
			t.Errorf("behind %d texts there are %d tries left, wanted %d", i+1, got, want)
		}
	}
}

// P27.1: the reply that an entry has goes out as it is.
func TestChallengeReply(t *testing.T) {
	s := said(1, 2)
	d := asked(t)
	e := of(t, d, 1)
	e.Last, e.Reply = sum(s), must(t, message.New(catalog.CRes).With("threeDSServerTransID", text(77)).With("acsTransID", text(78)).With("challengeCompletionInd", "N"))
	d = with(t, d, e)
	held(t, s, d.Take(s), d, []desk.Out{{To: "app", Text: e.Reply}}, 0, nil, nil)
}

// P27.1: texts of transactions that aren't known: NoTransID, of acsTransID.
func TestUnknown(t *testing.T) {
	d := asked(t)
	for _, d := range []desk.Desk{d, fresh(t)} {
		for _, x := range [][2]byte{{1, 5}, {4, 2}, {2, 1}, {77, 2}, {1, 77}, {77, 78}} {
			refused(t, d, said(x[0], x[1]), "app", "301", "acsTransID", "threeDSServerTransID", text(x[0]), "acsTransID", named(x[1]), "errorMessageType", "CReq")
			refused(t, d, said(x[0], x[1], "challengeDataEntry", code(2), "messageVersion", "2.1.0"), "app", "301", "acsTransID",
				"messageVersion", "2.1.0", "threeDSServerTransID", text(x[0]), "acsTransID", named(x[1]), "errorMessageType", "CReq")
			refused(t, d, answered(x[0], x[1], 3), "3ds", "301", "acsTransID", "threeDSServerTransID", text(x[0]), "acsTransID", named(x[1]), "dsTransID", named(3), "errorMessageType", "RRes")
		}
	}
	for _, ds := range []byte{2, 6, 77} { // an RRes tells the directory's id, too
		refused(t, d, answered(1, 2, ds), "3ds", "301", "acsTransID", "threeDSServerTransID", text(1), "acsTransID", named(2), "dsTransID", named(ds), "errorMessageType", "RRes")
	}
}

// P27.1: a result that is answered: nothing goes out; the entry is turned, where
// it was Told.
func TestAnswered(t *testing.T) {
	d := asked(t)
	told := d.Take(said(1, 2, "challengeDataEntry", code(2))).Desk
	for _, d := range []desk.Desk{told, told.Tick(5).Desk, told.Tick(10).Desk} {
		for _, result := range []string{"01", "02", "03", "04"} {
			s := answered(1, 2, 3, "resultsStatus", result)
			e := of(t, d, 1)
			e.Txn.Phase = txn.Done
			then := d.Take(s, draws(60, 61)...)
			held(t, s, then, with(t, d, e), nil, 0, []api.UUID{drawn(2)}, nil)
			still(t, then.Desk, s)
			still(t, then.Desk, answered(1, 2, 3, "resultsStatus", "02"))
		}
	}
	still(t, d, answered(1, 2, 3)) // a challenge that runs
	still(t, d, answered(4, 5, 6)) // what was Done at once
}

// sent gives the result of that server's id as it stands in the desk.
func sent(t testing.TB, d desk.Desk, server byte) desk.Out {
	t.Helper()
	return desk.Out{To: "3ds", Text: must(t, of(t, d, server).Txn.Result())}
}

// P27.2: time that goes by where nothing is due.
func TestTickIdle(t *testing.T) {
	d := fresh(t)
	for _, x := range []struct{ now, n, then uint64 }{{0, 0, 0}, {0, 1, 1}, {100, 5, 105}, {7, most - 7, most}, {7, most, most}, {most, most, most}, {most, 0, most}} {
		d.Now = x.now
		want := d
		want.Now = x.then
		held(t, "idle", d.Tick(x.n), want, nil, 0, nil, nil)
	}
	d = asked(t)
	for n := range uint64(7) { // up to a tick ahead of the deadlines
		want := d
		want.Now += n
		held(t, "ahead", d.Tick(n), want, nil, 0, nil, nil)
	}
}

// P27.2: challenges that are late, and their results, by rising ticks, of one
// tick by rising ids.
func TestTickLate(t *testing.T) {
	d := asked(t)
	for _, n := range []uint64{7, 8, 1000, most} {
		s := d.Tick(n)
		now := min(n, most-103) + 103
		want := d
		want.Now = now
		for _, server := range []byte{1, 7} {
			e := of(t, d, server)
			e.Txn.OTP.Over, e.Txn.Case.Status, e.Txn.Phase, e.Txn.Sent, e.Txn.Next = 3, "U", txn.Told, 1, min(now, most-5)+5
			want = with(t, want, e)
		}
		held(t, "late", s, want, []desk.Out{sent(t, want, 1), sent(t, want, 7)}, 0, []api.UUID{drawn(2), drawn(8)}, nil)
	}
	d = fresh(t)
	for i, acs := range []byte{9, 3, 7, 1, 5} { // the deadlines rise as the ids fall, by twos
		d.Now = 100 + uint64(i/2)
		d = d.Take(request(acs, "500"), draws(acs, 50)...).Desk
	}
	s := d.Tick(1000)
	var outs []desk.Out
	var turned []api.UUID
	for _, acs := range []byte{3, 9, 1, 7, 5} {
		outs, turned = append(outs, sent(t, s.Desk, acs)), append(turned, drawn(acs))
	}
	held(t, "in order", s, s.Desk, outs, 0, turned, nil)
}

// P27.2: a result is sent as often as the setting says, once at a time however
// much time goes by; then the transaction is Done, and nothing is sent.
func TestTickAgain(t *testing.T) {
	d := asked(t).Take(said(1, 2, "challengeDataEntry", code(2))).Desk
	d = d.Take(said(7, 8, "challengeDataEntry", code(8))).Desk
	d = d.Take(answered(7, 8, 9)).Desk
	for _, n := range []uint64{5, 6, 500} {
		d := d
		for times := 2; times <= 3; times++ {
			e := of(t, d, 1)
			e.Txn.Sent, e.Txn.Next = times, d.Now+n+5
			want := with(t, d, e)
			want.Now += n
			s := d.Tick(n)
			held(t, "again", s, want, []desk.Out{sent(t, d, 1)}, 0, []api.UUID{drawn(2)}, nil)
			d = s.Desk
			early := d
			early.Now += 4
			held(t, "early", d.Tick(4), early, nil, 0, nil, nil)
		}
		e := of(t, d, 1)
		e.Txn.Phase = txn.Done
		want := with(t, d, e)
		want.Now += n
		s := d.Tick(n)
		held(t, "done", s, want, nil, 0, []api.UUID{drawn(2)}, nil)
		want.Now = most
		held(t, "behind", s.Desk.Tick(most), want, nil, 0, nil, nil)
	}
}

// P5: time that goes by brings each to its end, at the end of all ticks, too.
func TestTickEnds(t *testing.T) {
	for _, n := range []uint64{1, 5, 1000, most} {
		d := filled(t, 3, 7)
		sent := map[string]int{}
		for range 100 {
			s := d.Tick(n)
			for _, o := range s.Outs {
				sent[fields(t, o.Text)["threeDSServerTransID"]]++
			}
			d = s.Desk
		}
		for e := range d.Book.All() {
			want := 3
			if e.First == "N" {
				want = 0
			}
			if e.Txn.Phase != txn.Done || sent[fields(t, must(t, e.Txn.Result()))["threeDSServerTransID"]] != want {
				t.Errorf("by steps of %d there is %v", n, e)
			}
		}
	}
}

// Entries that no request came to: what has no text doesn't go out, and what
// isn't turned isn't told.
func TestOddEntries(t *testing.T) {
	odd := func(server, acs byte, phase int) book.Entry {
		e := book.Entry{Seq: 1, Sum: sum(request(server, "50"))}
		e.Txn.Case.Server, e.Txn.Case.ACS, e.Txn.Case.DS, e.Txn.Phase = id(server), drawn(acs), drawn(3), phase
		return e
	}
	over := odd(7, 8, txn.Asked)
	over.Txn.OTP.Over = 1 // a challenge that is over, but Asked
	d := laid(t, fresh(t), odd(1, 2, txn.Told), odd(4, 5, txn.Asked), over, odd(9, 10, -1))
	s := d.Tick(1)
	if len(s.Outs) != 0 || !slices.Equal(s.Changed, []api.UUID{drawn(2), drawn(5)}) {
		t.Errorf("of a tick there goes out %q, turned are %x", s.Outs, s.Changed)
	}
	held(t, "an AReq", d.Take(request(1, "50")), d, nil, 0, nil, nil)
	first := d.Take(said(4, 5))
	if len(first.Outs) != 0 || !slices.Equal(first.Changed, []api.UUID{drawn(5)}) {
		t.Errorf("of a CReq there goes out %q, turned are %x", first.Outs, first.Changed)
	}
	held(t, "a CReq", first.Desk.Take(said(4, 5)), first.Desk, nil, 0, nil, nil)
	held(t, "an RRes", d.Take(answered(9, 10, 3)), d, nil, 0, nil, nil)
}
