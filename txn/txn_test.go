package txn_test

import (
	"fmt"
	"maps"
	"math"
	"math/rand/v2"
	"slices"
	"strings"
	"testing"

	"cashier/api"
	"cashier/catalog"
	"cashier/message"
	"cashier/otp"
	"cashier/proof"
	"cashier/ranges"
	"cashier/risk"
	"cashier/txn"
)

const (
	most = math.MaxUint64

	server   = "11111111-1111-1111-1111-111111111111"
	acsText  = "22222222-2222-2222-2222-222222222222"
	dsText   = "33333333-3333-3333-3333-333333333333"
	noughts  = "00000000-0000-0000-0000-000000000000"
	required = "threeDSServerTransID acctNumber purchaseAmount purchaseCurrency purchaseDate"
)

var acs, ds = filled(0x22), filled(0x33)

func filled(b byte) (u api.UUID) {
	for i := range u {
		u[i] = b
	}
	return u
}

// usual is a setting that may be: what is below 100 goes through, what isn't
// below 1000 doesn't, but for purchases in another currency.
func usual() txn.Setting {
	return txn.Setting{
		Key: "key", Policy: risk.Policy{Steps: []uint64{100, 1000}, Codes: []string{"7995"}, Home: "978", Low: 10, High: 20},
		Tries: 3, Wait: 10, Every: 5, Sends: 3,
	}
}

// with gives the usual setting, turned.
func with(do func(c *txn.Setting)) txn.Setting {
	c := usual()
	do(&c)
	return c
}

var whose = ranges.Range{From: "4000000000000000", To: "4999999999999999", ACS: "acs", Low: "2.1.0", High: "2.2.0", Mode: ranges.Full}

// mode gives the range with that mode.
func mode(n int) ranges.Range {
	r := whose
	r.Mode = n
	return r
}

// request gives an AReq of that amount, with further fields.
func request(amount string, l ...string) message.Message {
	m := message.New(catalog.AReq)
	l = append([]string{
		"threeDSServerTransID", server, "acctNumber", "4111111111111111", "purchaseAmount", amount, "purchaseCurrency", "978",
		"purchaseDate", "20240229235959", "merchantName", "x", "mcc", "5411", "deviceChannel", "01", "messageCategory", "01",
	}, l...)
	for i := 0; i < len(l); i += 2 {
		m = m.With(l[i], l[i+1])
	}
	return m
}

// the case of such a request.
func caseOf(amount, status string) proof.Case {
	return proof.Case{Server: filled(0x11), ACS: acs, DS: ds, Card: "4111111111111111", Amount: amount, Currency: "978", Date: "20240229235959", Status: status}
}

// begun gives a transaction that was begun at the tick 100, its challenge
// running until 110.
func begun(t *testing.T, c txn.Setting) txn.Txn {
	t.Helper()
	x, err := c.Start(request("500"), whose, acs, ds, 100)
	if err != api.OK || x.Phase != txn.Asked {
		t.Fatalf("Start = %v, %v", x, err)
	}
	return x
}

// What the numbers are that others keep.
func TestNumbers(t *testing.T) {
	if got := [...]int{txn.Asked, txn.Told, txn.Done}; got != [...]int{1, 2, 3} {
		t.Errorf("the numbers are %v", got)
	}
}

// P23.1: which settings may be, each part by itself.
func TestCheck(t *testing.T) {
	for _, s := range []string{"k", "\x00", "\xff", " ", strings.Repeat("k", 63), strings.Repeat("k", 64), strings.Repeat("\u20ac", 21)} {
		checked(t, with(func(c *txn.Setting) { c.Key = s }), api.OK)
	}
	for _, s := range []string{"", strings.Repeat("k", 65), strings.Repeat("\u20ac", 22), strings.Repeat("k", 5000)} {
		checked(t, with(func(c *txn.Setting) { c.Key = s }), api.ErrArg)
	}
	for n := -300; n <= 300; n++ {
		want := api.ErrRange
		if n >= 1 && n <= 9 {
			want = api.OK
		}
		checked(t, with(func(c *txn.Setting) { c.Tries = n }), want)
		checked(t, with(func(c *txn.Setting) { c.Sends = n }), want)
	}
	for _, n := range []int{math.MinInt, math.MinInt + 1, math.MaxInt, 1 << 32, 1<<32 + 1, -1 << 32, 1<<16 + 5, 1<<8 + 5} {
		checked(t, with(func(c *txn.Setting) { c.Tries = n }), api.ErrRange)
		checked(t, with(func(c *txn.Setting) { c.Sends = n }), api.ErrRange)
	}
	for _, n := range []uint64{0, 1, 2, 10, 1 << 8, 1 << 32, 1 << 63, most - 1, most} {
		want := api.OK
		if n == 0 {
			want = api.ErrRange
		}
		checked(t, with(func(c *txn.Setting) { c.Wait = n }), want)
		checked(t, with(func(c *txn.Setting) { c.Every = n }), want)
	}
	checked(t, txn.Setting{}, api.ErrArg)
}

func checked(t *testing.T, c txn.Setting, want api.Errno) {
	t.Helper()
	if got := c.Check(); got != want {
		t.Errorf("%.300v: Check() = %v, wanted %v", c, got, want)
	}
}

// P23.1: a policy that may not be, by layer 20's error; and, of all faults that
// there are, which is told.
func TestCheckOrder(t *testing.T) {
	policies := []struct {
		do  func(p *risk.Policy)
		err api.Errno
	}{
		{func(p *risk.Policy) {}, api.OK},
		{func(p *risk.Policy) { p.Steps = make([]uint64, 9) }, api.ErrMany},
		{func(p *risk.Policy) { p.Codes = slices.Repeat([]string{"1234"}, 9) }, api.ErrMany},
		{func(p *risk.Policy) { p.Codes = []string{"123"} }, api.ErrForm},
		{func(p *risk.Policy) { p.Home = "EUR" }, api.ErrForm},
		{func(p *risk.Policy) { *p = risk.Policy{} }, api.ErrForm},
		{func(p *risk.Policy) { p.Low = -1 }, api.ErrRange},
		{func(p *risk.Policy) { p.Low, p.High = 21, 20 }, api.ErrRange},
		{func(p *risk.Policy) { p.High = 1001 }, api.ErrRange},
	}
	others := []func(c *txn.Setting){
		func(c *txn.Setting) { c.Tries = 0 }, func(c *txn.Setting) { c.Wait = 0 }, func(c *txn.Setting) { c.Every = 0 }, func(c *txn.Setting) { c.Sends = 10 },
	}
	for _, p := range policies {
		for which := range 1 << len(others) {
			c, want := usual(), p.err
			p.do(&c.Policy)
			for i, do := range others {
				if which>>i&1 == 1 {
					do(&c)
				}
			}
			if want == api.OK && which > 0 {
				want = api.ErrRange
			}
			checked(t, c, want)
			c.Key = ""
			checked(t, c, api.ErrArg)
		}
	}
}

// P23.1: what is begun, in full: a challenge, what goes through, an attempt,
// what is declined.
func TestStartTold(t *testing.T) {
	c := usual()
	value := func(amount, status string) string { return caseOf(amount, status).Value("key") }
	for _, x := range []struct {
		m    message.Message
		r    ranges.Range
		want txn.Txn
	}{
		{request("500"), whose, txn.Txn{Case: caseOf("500", "C"), OTP: otp.State{Tries: 3, Deadline: 110}, Phase: txn.Asked}},
		{request("50"), whose, txn.Txn{Case: caseOf("50", "Y"), Proof: value("50", "Y"), Phase: txn.Done}},
		{request("5000"), whose, txn.Txn{Case: caseOf("5000", "N"), Phase: txn.Done}},
		{request("50", "challengeInd", "03"), whose, txn.Txn{Case: caseOf("50", "C"), OTP: otp.State{Tries: 3, Deadline: 110}, Phase: txn.Asked}},
		{request("5000", "challengeInd", "04"), whose, txn.Txn{Case: caseOf("5000", "C"), OTP: otp.State{Tries: 3, Deadline: 110}, Phase: txn.Asked}},
		{request("500", "challengeInd", "02"), whose, txn.Txn{Case: caseOf("500", "Y"), Proof: value("500", "Y"), Phase: txn.Done}},
		{request("50", "mcc", "7995"), whose, txn.Txn{Case: caseOf("50", "N"), Phase: txn.Done}},
		{request("500", "deviceChannel", "02"), whose, txn.Txn{Case: caseOf("500", "C"), OTP: otp.State{Tries: 3, Deadline: 110}, Phase: txn.Asked}},
		{request("500"), mode(ranges.Attempts), txn.Txn{Case: caseOf("500", "A"), Proof: value("500", "A"), Phase: txn.Done}},
		{request("5000", "challengeInd", "03"), mode(ranges.Attempts), txn.Txn{Case: caseOf("5000", "A"), Proof: value("5000", "A"), Phase: txn.Done}},
		{request("50"), mode(ranges.Off), txn.Txn{Case: caseOf("50", "N"), Phase: txn.Done}},
		{request("50", "challengeInd", "03"), mode(ranges.Off), txn.Txn{Case: caseOf("50", "N"), Phase: txn.Done}},
	} {
		x.want.Version, x.want.Category, x.want.To = "2.2.0", "01", "acs"
		if got, err := c.Start(x.m, x.r, acs, ds, 100); got != x.want || err != api.OK {
			t.Errorf("Start(%v) in the mode %d = %v, %v, wanted %v", maps.Collect(x.m.Fields()), x.r.Mode, got, err, x.want)
		}
	}
}

// P23.1: of the request its version and its category, just as they are; of the
// range who answers.
func TestStartOf(t *testing.T) {
	for _, text := range []string{"", "2.1.0", "02", "x", "\xff\x00"} {
		r := whose
		r.ACS = text + "acs"
		x, err := usual().Start(request("500", "messageVersion", text, "messageCategory", text+"!"), r, acs, ds, 100)
		want := begun(t, usual())
		want.Version, want.Category, want.To = text, text+"!", text+"acs"
		if x != want || err != api.OK {
			t.Errorf("Start = %v, %v, wanted %v", x, err, want)
		}
	}
	x, err := usual().Start(request("500").Without("messageVersion").Without("messageCategory").Without("messageType"), whose, acs, ds, 100)
	if want := begun(t, usual()); err != api.OK || x.Version != "" || x.Category != "" || x.Case != want.Case || x.OTP != want.OTP {
		t.Errorf("Start of a message without a version = %v, %v", x, err)
	}
	m := request("500").With("messageType", "CRes") // of any kind
	if x, err := usual().Start(m, whose, acs, ds, 100); err != api.OK || x != begun(t, usual()) {
		t.Errorf("Start of a CRes = %v, %v", x, err)
	}
	for _, id := range []api.UUID{{}, {1}, filled(0xff)} {
		x, err := usual().Start(request("500", "threeDSServerTransID", noughts), whose, id, filled(id[15]), 100)
		if err != api.OK || x.Case.Server != (api.UUID{}) || x.Case.ACS != id || x.Case.DS != filled(id[15]) {
			t.Errorf("Start with the id %x = %v, %v", id, x, err)
		}
	}
}

// P23.1: tries, and the deadline, as the setting has them.
func TestStartBegins(t *testing.T) {
	for tries := 1; tries <= 9; tries++ {
		for _, x := range []struct{ now, wait, deadline uint64 }{
			{0, 1, 1}, {100, 1, 101}, {100, 10, 110}, {1 << 32, 1 << 33, 3 << 32}, {most - 1, 1, most}, {most - 2, 1, most - 1},
			{most, 1, most}, {1, most, most}, {0, most, most}, {most, most, most}, {1 << 63, 1 << 63, most},
		} {
			c := with(func(c *txn.Setting) { c.Tries, c.Wait = tries, x.wait })
			got, err := c.Start(request("500"), whose, acs, ds, x.now)
			if want := (otp.State{Tries: tries, Deadline: x.deadline}); err != api.OK || got.OTP != want {
				t.Errorf("Start at %d: %v, %v, wanted %v", x.now, got.OTP, err, want)
			}
		}
	}
}

// P23.1: a request that lacks something, or whose id is none; whatever else
// there is, and of any setting.
func TestStartErrors(t *testing.T) {
	odd := []txn.Setting{usual(), {}, with(func(c *txn.Setting) { c.Key = "" }), with(func(c *txn.Setting) { c.Every, c.Sends = 0, -1 })}
	for n := range 5 {
		for _, c := range odd {
			for name := range strings.FieldsSeq(required) {
				refused(t, c, request("500").Without(name), mode(n), api.ErrNone)
				refused(t, c, request("500", "threeDSServerTransID", "x").Without(name), mode(n), api.ErrNone)
			}
			refused(t, c, message.Message{}, mode(n), api.ErrNone)
			refused(t, c, message.New(catalog.AReq), mode(n), api.ErrNone)
			for _, id := range []string{"", "x", server[1:], server + "1", " " + server, strings.ReplaceAll(server, "-", ""), "A" + strings.Repeat("a", 35), "g" + server[1:]} {
				refused(t, c, request("500", "threeDSServerTransID", id), mode(n), api.ErrForm)
			}
			if _, err := c.Start(request("500"), mode(n), acs, ds, 100); err != api.OK {
				t.Errorf("%v: Start: %v", c, err)
			}
		}
	}
}

func refused(t *testing.T, c txn.Setting, m message.Message, r ranges.Range, want api.Errno) {
	t.Helper()
	if x, err := c.Start(m, r, acs, ds, 100); err != want || x != (txn.Txn{}) {
		t.Errorf("%v: Start(%v) = %v, %v, wanted %v", c, maps.Collect(m.Fields()), x, err, want)
	}
}

// P23.1: all modes, and amounts, by layer 20's Decide.
func TestStartDecides(t *testing.T) {
	r := rand.New(rand.NewPCG(23, 1))
	seen := map[string]int{}
	for range 5000 {
		c := usual()
		c.Policy.Low = r.IntN(60)
		c.Policy.High = c.Policy.Low + r.IntN(60)
		m := request(fmt.Sprint(r.IntN(2000)), "mcc", pick(r, "7995", "5411"), "deviceChannel", pick(r, "01", "02", "03"), "challengeInd", pick(r, "01", "02", "03", "04"), "purchaseCurrency", pick(r, "978", "840"))
		where, now := mode(r.IntN(5)), r.Uint64N(1000)
		x, err := c.Start(m, where, acs, ds, now)
		what := c.Policy.Decide(risk.Of(m), where.Mode)
		seen[what]++
		want := txn.Txn{Version: "2.2.0", Category: "01", To: "acs", Phase: txn.Done}
		want.Case, _ = proof.Of(m, acs, ds, what)
		switch what {
		case "C":
			want.Phase, want.OTP = txn.Asked, otp.State{Tries: 3, Deadline: now + 10}
		case "Y", "A":
			want.Proof = want.Case.Value("key")
		}
		if x != want || err != api.OK {
			t.Errorf("Start(%v) = %v, %v, wanted %v", maps.Collect(m.Fields()), x, err, want)
		}
	}
	if len(seen) != 4 || slices.Min(slices.Collect(maps.Values(seen))) < 100 {
		t.Errorf("what was decided: %v", seen)
	}
}

// pick gives one of the texts.
func pick(r *rand.Rand, l ...string) string { return l[r.IntN(len(l))] }

// entry gives a CReq in which that is entered.
func entry(said string) message.Message {
	return message.New(catalog.CReq).With("challengeDataEntry", said)
}

// cancel gives a CReq by which all is given up.
func cancel() message.Message { return message.New(catalog.CReq).With("challengeCancel", "01") }

// reply gives what a transaction's CRes has.
func reply(version, completion, status string) map[string]string {
	out := map[string]string{"messageType": "CRes", "messageVersion": version, "threeDSServerTransID": server, "acsTransID": acsText, "challengeCompletionInd": completion}
	if status != "" {
		out["transStatus"] = status
	}
	return out
}

// has holds a message's fields against those.
func has(t *testing.T, what string, m message.Message, want map[string]string) {
	t.Helper()
	if got := maps.Collect(m.Fields()); !maps.Equal(got, want) {
		t.Errorf("%s: %q, wanted %q", what, got, want)
	}
}

// P23.2: each thing that may come to a challenge, told in full.
func TestChallengeTold(t *testing.T) {
	c := usual()
	x, code := begun(t, c), otp.Code("key", acs)
	over := func(entered, tries, how int, status string, now uint64) txn.Txn {
		y := x
		y.Entered, y.OTP = entered, otp.State{Tries: tries, Deadline: 110, Over: how}
		y.Case.Status, y.Phase, y.Sent, y.Next = status, txn.Told, 1, now+5
		if status == "Y" {
			y.Proof = caseOf("500", "Y").Value("key")
		}
		return y
	}
	wrong := x
	wrong.Entered, wrong.OTP.Tries = 1, 2
	last := x
	last.Entered, last.OTP.Tries = 2, 1
	for _, s := range []struct {
		what   string
		x      txn.Txn
		m      message.Message
		now    uint64
		want   txn.Txn
		end    string
		status string
	}{
		{"right", x, entry(code), 100, over(1, 3, otp.Right, "Y", 100), "Y", "Y"},
		{"right at last", x, entry(code), 109, over(1, 3, otp.Right, "Y", 109), "Y", "Y"},
		{"wrong", x, entry("x"), 109, wrong, "N", ""},
		{"empty", x, entry(""), 109, wrong, "N", ""},
		{"out", last, entry("x"), 109, over(3, 0, otp.Out, "N", 109), "Y", "N"},
		{"the last try", last, entry(code), 109, over(3, 1, otp.Right, "Y", 109), "Y", "Y"},
		{"right, but late", x, entry(code), 110, over(1, 3, otp.Late, "U", 110), "Y", "N"},
		{"wrong, and late", x, entry("x"), 111, over(1, 3, otp.Late, "U", 111), "Y", "N"},
		{"given up", x, cancel(), 109, over(0, 3, otp.Gone, "N", 109), "Y", "N"},
		{"given up, but late", x, cancel(), 110, over(0, 3, otp.Late, "U", 110), "Y", "N"},
		{"given up, and right", x, cancel().With("challengeDataEntry", code), 109, over(0, 3, otp.Gone, "N", 109), "Y", "N"},
		{"given up by an empty text", x, entry(code).With("challengeCancel", ""), 109, over(0, 3, otp.Gone, "N", 109), "Y", "N"},
		{"neither", x, message.New(catalog.CReq), 109, x, "N", ""},
		{"nothing at all", x, message.Message{}, 109, x, "N", ""},
		{"neither, and late", x, message.New(catalog.CReq), 110, over(0, 3, otp.Late, "U", 110), "Y", "N"},
		{"of another kind", x, message.New(catalog.AReq).With("challengeDataEntry", code), 109, over(1, 3, otp.Right, "Y", 109), "Y", "Y"},
		{"of no kind", x, message.Message{}.With("challengeDataEntry", code), 109, over(1, 3, otp.Right, "Y", 109), "Y", "Y"},
		{"with other fields", x, entry(code).With("messageVersion", "2.1.0").With("acsTransID", noughts), 109, over(1, 3, otp.Right, "Y", 109), "Y", "Y"},
	} {
		y, m := c.Challenge(s.x, s.m, s.now)
		if y != s.want {
			t.Errorf("%s: %v, wanted %v", s.what, y, s.want)
		}
		has(t, s.what, m, reply("2.2.0", s.end, s.status))
		if f := m.Check(); f != (message.Fault{}) {
			t.Errorf("%s: the CRes may not be: %v", s.what, f)
		}
	}
}

// P23.2: of one that isn't Asked nothing comes, whatever is said; and the CRes
// tells how it ended.
func TestChallengeOver(t *testing.T) {
	c, code := usual(), otp.Code("key", acs)
	for _, phase := range []int{txn.Told, txn.Done, 0, 4, -1, math.MinInt, math.MaxInt, 1 << 32, 1<<32 + 1, 257} {
		for _, status := range []string{"Y", "N", "U", "A", "C", "R", "", "y"} {
			x := begun(t, c)
			x.Phase, x.Case.Status, x.Entered, x.Sent = phase, status, 1, 1
			want := "N"
			if status == "Y" {
				want = "Y"
			}
			for _, m := range []message.Message{entry(code), entry("x"), cancel(), message.New(catalog.CReq)} {
				for _, now := range []uint64{100, 110, most} {
					y, r := c.Challenge(x, m, now)
					if y != x {
						t.Errorf("%v became %v", x, y)
					}
					has(t, "CRes", r, reply("2.2.0", "Y", want))
				}
			}
		}
	}
}

// P23.2: the code hangs on the Key, and on the ACS's id alone.
func TestChallengeCode(t *testing.T) {
	for _, key := range []string{"k", "key", "\x00", strings.Repeat("k", 64)} {
		for _, id := range []api.UUID{{1}, acs, ds, filled(0xff)} {
			c := with(func(c *txn.Setting) { c.Key = key })
			x, _ := c.Start(request("500"), whose, id, ds, 100)
			for _, said := range []string{otp.Code(key, id), otp.Code("other", id), otp.Code(key, filled(9)), otp.Code(key, filled(0x11)), otp.Code(key, ds)} {
				y, _ := c.Challenge(x, entry(said), 100)
				if right := said == otp.Code(key, id); (y.Case.Status == "Y") != right || right && y.Proof != y.Case.Value(key) {
					t.Errorf("the key %q, the id %x: of %q came %v", key, id, said, y)
				}
			}
		}
	}
}

// P23.2: how many texts were entered counts up to 99.
func TestEntered(t *testing.T) {
	c := usual()
	x := begun(t, c)
	x.OTP.Tries = 1000
	for n := 1; n <= 300; n++ {
		x, _ = c.Challenge(x, entry("x"), 100)
		if x.Entered != min(n, 99) || x.OTP.Tries != 1000-n || x.Phase != txn.Asked {
			t.Fatalf("behind %d texts: %v", n, x)
		}
		counter, _ := x.Result().Get("interactionCounter")
		if want := fmt.Sprintf("%02d", min(n, 99)); counter != want {
			t.Errorf("behind %d texts: %q, wanted %q", n, counter, want)
		}
		if y, _ := c.Challenge(x, message.New(catalog.CReq), 100); y != x {
			t.Errorf("no text counts: %v", y)
		}
		if y, _ := c.Challenge(x, cancel(), 100); y.Entered != x.Entered {
			t.Errorf("giving up counts: %v", y)
		}
	}
}

// P23.2, P23.3: a challenge that was over in some other way ahead is over then;
// of any other number N.
func TestOtherEnds(t *testing.T) {
	c := usual()
	for _, over := range []int{1, 2, 3, 4, 5, 6, -1, 256, 257, 1 << 32, 1<<32 + 1, math.MinInt, math.MaxInt} {
		want := map[int]string{1: "Y", 3: "U"}[over]
		if want == "" {
			want = "N"
		}
		x := begun(t, c)
		x.OTP.Over = over
		for _, m := range []message.Message{entry("x"), entry(otp.Code("key", acs)), cancel(), message.New(catalog.CReq)} {
			for _, now := range []uint64{100, 110} {
				y, _ := c.Challenge(x, m, now)
				if y.Case.Status != want || y.Phase != txn.Told || y.OTP != x.OTP || y.Sent != 1 || (y.Proof == caseOf("500", "Y").Value("key")) != (want == "Y") || (y.Proof == "") != (want != "Y") {
					t.Errorf("over as %d: %v", over, y)
				}
			}
		}
		if y, sent := c.Tick(x, 110); y != x || sent {
			t.Errorf("over as %d: Tick = %v, %v", over, y, sent)
		}
	}
}

// P23.3: what time does, told in full.
func TestTickTold(t *testing.T) {
	c := usual()
	x := begun(t, c)
	late := x
	late.OTP.Over, late.Case.Status, late.Phase, late.Sent = otp.Late, "U", txn.Told, 1
	right, _ := c.Challenge(x, entry(otp.Code("key", acs)), 104)
	turned := func(x txn.Txn, phase, sent int, next uint64) txn.Txn {
		x.Phase, x.Sent, x.Next = phase, sent, next
		return x
	}
	frictionless, _ := c.Start(request("50"), whose, acs, ds, 100)
	for _, s := range []struct {
		x    txn.Txn
		now  uint64
		want txn.Txn
		sent bool
	}{
		{x, 0, x, false},
		{x, 109, x, false},
		{x, 110, turned(late, txn.Told, 1, 115), true},
		{x, 200, turned(late, txn.Told, 1, 205), true},
		{x, most, turned(late, txn.Told, 1, most), true},
		{right, 0, right, false},
		{right, 108, right, false},
		{right, 109, turned(right, txn.Told, 2, 114), true},
		{right, 300, turned(right, txn.Told, 2, 305), true},
		{turned(right, txn.Told, 2, 114), 113, turned(right, txn.Told, 2, 114), false},
		{turned(right, txn.Told, 2, 114), 114, turned(right, txn.Told, 3, 119), true},
		{turned(right, txn.Told, 3, 119), 118, turned(right, txn.Told, 3, 119), false},
		{turned(right, txn.Told, 3, 119), 119, turned(right, txn.Done, 3, 119), false},
		{turned(right, txn.Told, 4, 119), 119, turned(right, txn.Done, 4, 119), false},
		{turned(right, txn.Done, 3, 119), most, turned(right, txn.Done, 3, 119), false},
		{turned(right, txn.Done, 1, 109), 109, turned(right, txn.Done, 1, 109), false},
		{frictionless, most, frictionless, false},
		{turned(x, 0, 0, 0), most, turned(x, 0, 0, 0), false},
		{turned(x, 4, 0, 0), most, turned(x, 4, 0, 0), false},
		{txn.Txn{}, most, txn.Txn{}, false},
	} {
		if got, sent := c.Tick(s.x, s.now); got != s.want || sent != s.sent {
			t.Errorf("%v: Tick(%d) = %v, %v, wanted %v, %v", s.x, s.now, got, sent, s.want, s.sent)
		}
	}
}

// P23.3: a result is sent just so often, Every ticks from one to the next; then
// it is Done.
func TestSends(t *testing.T) {
	for sends := 1; sends <= 9; sends++ {
		for _, every := range []uint64{1, 2, 7} {
			c := with(func(c *txn.Setting) { c.Sends, c.Every = sends, every })
			x := begun(t, c)
			var at []uint64
			for now := uint64(100); x.Phase != txn.Done; now++ {
				if now > 500 {
					t.Fatalf("%v comes to no end", x)
				}
				due, ok := x.Due()
				y, sent := c.Tick(x, now)
				if sent {
					at = append(at, now)
				}
				if !ok || (due <= now) != (y != x) {
					t.Errorf("due at %d, %v: at %d %v became %v", due, ok, now, x, y)
				}
				x = y
			}
			var want []uint64
			for i := range uint64(sends) {
				want = append(want, 110+i*every)
			}
			if !slices.Equal(at, want) || x.Sent != sends {
				t.Errorf("sent at %v, wanted %v: %v", at, want, x)
			}
		}
	}
}

// P23.3: who is answered, and who is due.
func TestAnswered(t *testing.T) {
	for _, phase := range []int{txn.Asked, txn.Told, txn.Done, 0, 4, -1, math.MinInt, math.MaxInt, 1<<32 + 2, 258} {
		x := begun(t, usual())
		x.Phase, x.Sent, x.Next, x.Entered = phase, 2, 77, 3
		want := x
		due, ok := uint64(0), false
		switch phase {
		case txn.Asked:
			due, ok = 110, true
		case txn.Told:
			due, ok = 77, true
			want.Phase = txn.Done
		}
		if got := x.Answered(); got != want {
			t.Errorf("%v: Answered() = %v", x, got)
		}
		if got, there := x.Due(); got != due || there != ok {
			t.Errorf("%v: Due() = %d, %v, wanted %d, %v", x, got, there, due, ok)
		}
	}
	if got, ok := (txn.Txn{}).Due(); got != 0 || ok || (txn.Txn{}).Answered() != (txn.Txn{}) {
		t.Errorf("of none: Due() = %d, %v", got, ok)
	}
}

// told gives what a result and an answer have.
func told(kind string, x txn.Txn, l ...string) map[string]string {
	text := func(u api.UUID) string {
		return fmt.Sprintf("%x-%x-%x-%x-%x", u[:4], u[4:6], u[6:8], u[8:10], u[10:])
	}
	out := map[string]string{
		"messageType": kind, "messageVersion": x.Version, "threeDSServerTransID": text(x.Case.Server), "dsTransID": text(x.Case.DS), "acsTransID": text(x.Case.ACS),
		"transStatus": x.Case.Status,
	}
	if x.Proof != "" && (x.Case.Status == "Y" || x.Case.Status == "A") {
		out["authenticationValue"] = x.Proof
	}
	for i := 0; i < len(l); i += 2 {
		out[l[i]] = l[i+1]
	}
	return out
}

// P23.3: what a result and an answer tell, in full.
func TestResult(t *testing.T) {
	c := usual()
	x, err := c.Start(request("500", "messageVersion", "2.1.0", "messageCategory", "02"), whose, acs, ds, 100)
	if err != api.OK {
		t.Fatal(err)
	}
	has(t, "ARes", x.Answer(), map[string]string{"messageType": "ARes", "messageVersion": "2.1.0", "threeDSServerTransID": server, "dsTransID": dsText, "acsTransID": acsText, "transStatus": "C"})
	x, m := c.Challenge(x, entry("x"), 100)
	has(t, "CRes", m, reply("2.1.0", "N", ""))
	x, m = c.Challenge(x, entry(otp.Code("key", acs)), 100)
	has(t, "CRes", m, reply("2.1.0", "Y", "Y"))
	value := caseOf("500", "Y").Value("key")
	has(t, "RReq", x.Result(), map[string]string{
		"messageType": "RReq", "messageVersion": "2.1.0", "threeDSServerTransID": server, "dsTransID": dsText, "acsTransID": acsText, "messageCategory": "02",
		"transStatus": "Y", "authenticationValue": value, "interactionCounter": "02",
	})
	has(t, "ARes", x.Answer(), map[string]string{
		"messageType": "ARes", "messageVersion": "2.1.0", "threeDSServerTransID": server, "dsTransID": dsText, "acsTransID": acsText, "transStatus": "Y", "authenticationValue": value,
	})
	x, _ = c.Start(request("50"), mode(ranges.Attempts), acs, ds, 100)
	has(t, "ARes of an attempt", x.Answer(), told("ARes", x, "authenticationValue", caseOf("50", "A").Value("key")))
	x, _ = c.Start(request("50"), mode(ranges.Off), acs, ds, 100)
	has(t, "ARes of what is declined", x.Answer(), told("ARes", x))
	if m, ok := x.Answer().Get("authenticationValue"); ok {
		t.Errorf("what is declined has the value %q", m)
	}
}

// P23.3, P23.4: there is a value, where the Status is Y or A, and there is one.
func TestValue(t *testing.T) {
	for _, status := range []string{"Y", "A", "N", "U", "C", "R", "", "YA", "y"} {
		for _, value := range []string{"", caseOf("500", "Y").Value("key"), "x"} {
			x := begun(t, usual())
			x.Case.Status, x.Proof = status, value
			for _, m := range []message.Message{x.Result(), x.Answer()} {
				want := map[bool]string{true: value}[status == "Y" || status == "A"]
				if got, ok := m.Get("authenticationValue"); got != want || ok != (want != "") {
					t.Errorf("of the status %q the value %q: %q, %v", status, value, got, ok)
				}
			}
		}
	}
}

// P23.3: interactionCounter has two digits, whatever number there is.
func TestCounter(t *testing.T) {
	for n, want := range map[int]string{
		0: "00", 1: "01", 9: "09", 10: "10", 99: "99", 100: "00", 101: "01", 199: "99", 1234567: "67", math.MaxInt: "07", -1: "99", -99: "01", -100: "00", -101: "99", math.MinInt: "92",
	} {
		x := begun(t, usual())
		x.Entered = n
		has(t, fmt.Sprint(n), x.Result(), told("RReq", x, "messageCategory", "01", "interactionCounter", want))
	}
}

// The rule of numbers' ends: counts and ticks don't go round.
func TestEnds(t *testing.T) {
	c := with(func(c *txn.Setting) { c.Every = most })
	x := begun(t, c)
	for _, s := range []struct{ sent, want int }{{math.MaxInt, math.MaxInt}, {math.MaxInt - 1, math.MaxInt}, {math.MinInt, math.MinInt + 1}, {-1, 0}, {7, 8}} {
		x.Sent = s.sent
		for _, now := range []uint64{110, 1 << 63, most} {
			if y, sent := c.Tick(x, now); y.Sent != s.want || y.Next != most || !sent {
				t.Errorf("%v: Tick(%d) = %v, %v", x, now, y, sent)
			}
		}
		if y, _ := c.Challenge(x, cancel(), 1); y.Sent != s.want || y.Next != most {
			t.Errorf("%v: Challenge = %v", x, y)
		}
	}
	x = begun(t, c)
	for _, s := range []struct{ entered, want int }{{math.MaxInt, 99}, {100, 99}, {99, 99}, {98, 99}, {97, 98}, {-1, 0}, {math.MinInt, math.MinInt + 1}} {
		x.Entered = s.entered
		if y, _ := c.Challenge(x, entry("x"), 1); y.Entered != s.want {
			t.Errorf("%v: Challenge = %v", x, y)
		}
	}
	x.Phase, x.Sent, x.Next = txn.Told, 5, 7
	for _, sends := range []int{math.MinInt, -1, 0, 4, 5, 6, math.MaxInt} {
		c.Sends = sends
		if y, sent := c.Tick(x, 7); sent != (sends > 5) || sent && (y.Sent != 6 || y.Phase != txn.Told) || !sent && (y.Sent != 5 || y.Phase != txn.Done) {
			t.Errorf("of %d: %v, %v", sends, y, sent)
		}
	}
}

// over, sent, asked and ticked: the chapter's words in another way.
func over(c txn.Setting, x txn.Txn, now uint64) txn.Txn {
	statuses := map[int]string{1: "Y", 3: "U"}
	x.Case.Status, x.Proof = "N", ""
	if s, ok := statuses[x.OTP.Over]; ok {
		x.Case.Status = s
	}
	if x.OTP.Over == 1 {
		x.Proof = x.Case.Value(c.Key)
	}
	return sent(c, x, now)
}

func sent(c txn.Setting, x txn.Txn, now uint64) txn.Txn {
	x.Phase = 2
	if x.Sent < math.MaxInt {
		x.Sent++
	}
	if x.Next = now + c.Every; x.Next < now {
		x.Next = most
	}
	return x
}

func asked(c txn.Setting, x txn.Txn, m message.Message, now uint64) (txn.Txn, map[string]string) {
	if x.Phase == 1 {
		fields := maps.Collect(m.Fields())
		if _, ok := fields["challengeCancel"]; ok {
			x.OTP, _ = x.OTP.Cancel(now)
		} else if said, ok := fields["challengeDataEntry"]; ok {
			if x.Entered >= 99 {
				x.Entered = 98
			}
			x.Entered++
			x.OTP, _ = x.OTP.Enter(otp.Code(c.Key, x.Case.ACS), said, now)
		} else {
			x.OTP, _ = x.OTP.Tick(now)
		}
		if x.OTP.Over != 0 {
			x = over(c, x, now)
		}
	}
	r := told("CRes", x)
	for _, name := range []string{"dsTransID", "transStatus", "authenticationValue"} {
		delete(r, name)
	}
	r["challengeCompletionInd"] = "N"
	if x.Phase != 1 {
		r["challengeCompletionInd"], r["transStatus"] = "Y", "N"
		if x.Case.Status == "Y" {
			r["transStatus"] = "Y"
		}
	}
	return x, r
}

func ticked(c txn.Setting, x txn.Txn, now uint64) (txn.Txn, bool) {
	if x.Phase == 1 && x.OTP.Over == 0 && x.OTP.Deadline <= now {
		x.OTP.Over = 3
		return over(c, x, now), true
	}
	if x.Phase == 2 && x.Next <= now {
		if x.Sent < c.Sends {
			return sent(c, x, now), true
		}
		x.Phase = 3
	}
	return x, false
}

// held holds all that is done to a transaction against the words above.
func held(t *testing.T, c txn.Setting, x txn.Txn, m message.Message, now uint64) {
	t.Helper()
	want, r := asked(c, x, m, now)
	got, answer := c.Challenge(x, m, now)
	if got != want {
		t.Errorf("%v: Challenge(%v, %d) = %v, wanted %v", x, maps.Collect(m.Fields()), now, got, want)
	}
	has(t, "CRes", answer, r)
	want, ok := ticked(c, x, now)
	if got, done := c.Tick(x, now); got != want || done != ok {
		t.Errorf("%v: Tick(%d) = %v, %v, wanted %v, %v", x, now, got, done, want, ok)
	}
	counter := ((x.Entered % 100) + 100) % 100
	has(t, "RReq", x.Result(), told("RReq", x, "messageCategory", x.Category, "interactionCounter", fmt.Sprintf("%02d", counter)))
	has(t, "ARes", x.Answer(), told("ARes", x))
	want = x
	if x.Phase == 2 {
		want.Phase = 3
	}
	if got := x.Answered(); got != want {
		t.Errorf("%v: Answered() = %v", x, got)
	}
	due := map[int]uint64{1: x.OTP.Deadline, 2: x.Next}
	if at, ok := x.Due(); at != due[x.Phase] || ok != (x.Phase == 1 || x.Phase == 2) {
		t.Errorf("%v: Due() = %d, %v", x, at, ok)
	}
}

// sound tells what must hold of each transaction that a setting comes to: no
// value but of Y and A, and all that is sent may be.
func sound(t *testing.T, c txn.Setting, x txn.Txn) {
	t.Helper()
	vouched := x.Case.Status == "Y" || x.Case.Status == "A"
	if (x.Proof != "") != vouched || vouched && x.Proof != x.Case.Value(c.Key) {
		t.Errorf("%v has the value %q", x.Case, x.Proof)
	}
	if (x.Phase == txn.Asked) != (x.Case.Status == "C") || x.Phase < txn.Asked || x.Phase > txn.Done {
		t.Errorf("%v is in the phase %d", x.Case, x.Phase)
	}
	for _, m := range []message.Message{x.Answer(), x.Result()} {
		if f := m.Check(); f != (message.Fault{}) {
			t.Errorf("%v: %v may not be: %v", x, maps.Collect(m.Fields()), f)
		}
		text, f := m.Text()
		if back, _, g := message.Parse(text); f != g || !message.Same(back, m) {
			t.Errorf("%s is read as something else: %v", text, g)
		}
	}
}

// random gives a setting that may be, and a request that may be.
func random(r *rand.Rand) (txn.Setting, message.Message) {
	c := usual()
	c.Key = strings.Repeat("k", 1+r.IntN(64))
	c.Tries, c.Sends, c.Wait, c.Every = 1+r.IntN(9), 1+r.IntN(9), 1+r.Uint64N(20), 1+r.Uint64N(9)
	m := request(fmt.Sprint(r.IntN(1500)), "deviceChannel", pick(r, "01", "02", "03"), "messageCategory", pick(r, "01", "02"), "messageVersion", pick(r, "2.1.0", "2.2.0"))
	if r.IntN(2) == 0 {
		m = m.With("challengeInd", pick(r, "01", "02", "03", "04"))
	}
	return c, m
}

// P23.2 to P23.4: transactions by chance, from their start to their end.
func TestChance(t *testing.T) {
	r := rand.New(rand.NewPCG(23, 4))
	ends := map[string]int{}
	for range 500 {
		c, m := random(r)
		if c.Check() != api.OK || m.Check() != (message.Fault{}) {
			t.Fatalf("%v: %v, %v", c, c.Check(), m.Check())
		}
		now := r.Uint64N(1000)
		x, err := c.Start(m, mode(ranges.Full+r.IntN(10)/8), acs, ds, now)
		if err != api.OK {
			t.Fatal(err)
		}
		code, results := otp.Code(c.Key, acs), 0
		for range 40 {
			sound(t, c, x)
			now += r.Uint64N(3)
			m := []message.Message{entry(code), entry("x"), entry("x"), entry("\xff"), message.New(catalog.CReq), message.New(catalog.CReq), cancel()}[r.IntN(7)]
			held(t, c, x, m, now)
			before, sent := x, false
			switch n := r.IntN(20); {
			case n < 6:
				var reply message.Message
				x, reply = c.Challenge(x, m, now)
				sent = before.Phase == txn.Asked && x.Phase == txn.Told
				if f := reply.Check(); f != (message.Fault{}) {
					t.Errorf("%v: the CRes may not be: %v", x, f)
				}
			case n < 19:
				x, sent = c.Tick(x, now)
			default:
				x = x.Answered()
			}
			follows(t, before, x)
			if sent {
				results++
			}
		}
		if results != x.Sent || x.Sent > c.Sends {
			t.Errorf("%v: %d results were sent, of at most %d", x, results, c.Sends)
		}
		x = toEnd(t, c, x)
		ends[x.Case.Status]++
	}
	for _, status := range []string{"Y", "N", "U", "A"} {
		if ends[status] < 20 {
			t.Errorf("the ends: %v", ends)
		}
	}
}

// follows tells what must hold of a transaction and of what it comes to.
func follows(t *testing.T, before, after txn.Txn) {
	t.Helper()
	if before.Phase == txn.Done && after != before {
		t.Errorf("%v was Done, and became %v", before, after)
	}
	if after.Phase < before.Phase || before.Phase == txn.Told && (after.Case != before.Case || after.Proof != before.Proof || after.OTP != before.OTP) {
		t.Errorf("%v became %v", before, after)
	}
	status := after.Case.Status
	after.Case.Status = before.Case.Status
	if after.Case != before.Case || after.To != before.To || after.Version != before.Version || after.Category != before.Category {
		t.Errorf("%v became %v, %s", before, after, status)
	}
}

// toEnd lets time go by until nothing is due any more (P5, of one).
func toEnd(t *testing.T, c txn.Setting, x txn.Txn) txn.Txn {
	t.Helper()
	for range 11 {
		at, ok := x.Due()
		if !ok {
			break
		}
		if y, sent := c.Tick(x, at-1); y != x || sent {
			t.Errorf("%v is due ahead of %d", x, at)
		}
		y, _ := c.Tick(x, at)
		if y == x {
			t.Errorf("%v isn't due at %d", x, at)
		}
		x = y
		sound(t, c, x)
	}
	if x.Phase != txn.Done {
		t.Errorf("%v comes to no end", x)
	}
	if y, sent := c.Tick(x, most); y != x || sent || x.Answered() != x {
		t.Errorf("%v was Done, and became %v", x, y)
	}
	return x
}

// P23.2, P23.3: all phases, ends, counts, about the ticks at which they turn.
func TestSteps(t *testing.T) {
	c, code := usual(), otp.Code("key", acs)
	messages := []message.Message{entry(code), entry("x"), cancel(), message.New(catalog.CReq)}
	for phase := -1; phase <= 5; phase++ {
		for _, over := range []int{0, 1, 3, 4, 9} {
			for sent := -1; sent <= 4; sent++ {
				for _, ends := range [][2]uint64{{5, 7}, {7, 5}, {0, most}, {most, 0}} {
					for _, now := range []uint64{0, 4, 5, 6, 7, 8, most - 5, most - 4, most} {
						x := begun(t, c)
						x.Phase, x.Sent, x.Next = phase, sent, ends[1]
						x.OTP = otp.State{Tries: 1 + (sent+1)%2, Deadline: ends[0], Over: over}
						held(t, c, x, messages[(phase+sent+over+int(now%100)+2)%4], now)
					}
				}
			}
		}
	}
}

// The rule of memory: settings, messages and transactions stay as they were.
func TestMemory(t *testing.T) {
	c := usual()
	steps := append(make([]uint64, 0, 8), 100, 1000)
	codes := append(make([]string, 0, 8), "7995")
	c.Policy.Steps, c.Policy.Codes = steps, codes
	m, q := request("500"), entry("x")
	fields, entered := maps.Collect(m.Fields()), maps.Collect(q.Fields())
	x := begun(t, c)
	want := x
	steps[0], codes[0] = 0, "5411" // nothing of the policy is kept
	y, reply := c.Challenge(x, q, 100)
	first := maps.Collect(reply.Fields())
	c.Tick(y, most)
	y.Result()
	y.Answer()
	y.Answered()
	c.Start(m, whose, acs, ds, 1)
	if x != want || !maps.Equal(maps.Collect(m.Fields()), fields) || !maps.Equal(maps.Collect(q.Fields()), entered) || !maps.Equal(maps.Collect(reply.Fields()), first) {
		t.Error("something was changed")
	}
	if !slices.Equal(steps[:8], []uint64{0, 1000, 0, 0, 0, 0, 0, 0}) || !slices.Equal(codes[:8], []string{"5411", "", "", "", "", "", "", ""}) {
		t.Errorf("the policy became %v, %v", steps[:8], codes[:8])
	}
}

// P1: whatever a setting, a transaction and a message have.
func FuzzEnds(f *testing.F) {
	f.Add("key", 3, uint64(10), uint64(5), 3, "500", server, 1, 1, 0, 0, uint64(7), uint64(100), "x", byte(0))
	f.Add("", math.MinInt, uint64(most), uint64(0), math.MaxInt, "", "x", 2, math.MaxInt, math.MinInt, 3, uint64(most), uint64(most), "\xff", byte(255))
	f.Fuzz(func(t *testing.T, key string, tries int, wait, every uint64, sends int, amount, id string, phase, sent, entered, over int, next, now uint64, said string, which byte) {
		c := with(func(c *txn.Setting) { c.Key, c.Tries, c.Wait, c.Every, c.Sends = key, tries, wait, every, sends })
		fits := tries >= 1 && tries <= 9 && sends >= 1 && sends <= 9 && wait > 0 && every > 0
		want := map[bool]api.Errno{false: api.ErrRange}[fits]
		if len(key) < 1 || len(key) > 64 {
			want = api.ErrArg
		}
		checked(t, c, want)
		x, err := c.Start(request(amount, "threeDSServerTransID", id, "mcc", said), mode(int(which%5)), acs, ds, now)
		if err != api.OK && (err != api.ErrForm || x != txn.Txn{}) {
			t.Errorf("Start = %v, %v", x, err)
		}
		m := message.Message{}
		if which&16 != 0 {
			m = m.With("challengeDataEntry", said)
		}
		if which&32 != 0 {
			m = m.With("challengeCancel", said)
		}
		if which&64 != 0 {
			m = m.With("challengeDataEntry", otp.Code(key, acs))
		}
		held(t, c, x, m, now)
		x.Phase, x.Sent, x.Entered, x.Next, x.OTP.Over = phase, sent, entered, next, over
		x.Version, x.Category = said, id
		held(t, c, x, m, now)
		x.Case.Status, x.OTP.Tries, x.OTP.Deadline = amount, tries, wait
		held(t, c, x, m, now)
	})
}
