package risk_test

import (
	"math"
	"math/big"
	"math/rand/v2"
	"regexp"
	"slices"
	"strconv"
	"strings"
	"testing"

	"cashier/api"
	"cashier/catalog"
	"cashier/message"
	"cashier/ranges"
	"cashier/risk"
)

// usual is a policy that may be.
func usual() risk.Policy {
	return risk.Policy{Steps: []uint64{100, 1000, 10000}, Codes: []string{"7995", "6051"}, Home: "978", Low: 20, High: 60}
}

// calm is a purchase to which the usual policy adds nothing.
var calm = risk.Buy{Amount: 99, MCC: "5411", Channel: "01", Currency: "978"}

// names are the rules', in order.
var names = []string{"amount", "mcc", "channel", "currency", "ind"}

// parts gives, in another way, what each rule adds, in order.
func parts(p risk.Policy, b risk.Buy) [5]int {
	var out [5]int
	for _, step := range p.Steps {
		if !(b.Amount < step) {
			out[0] += 10
		}
	}
	for _, code := range p.Codes {
		if code == b.MCC {
			out[1] = 30
		}
	}
	out[2] = map[string]int{"02": 5, "03": 20}[b.Channel]
	if p.Home != b.Currency {
		out[3] = 15
	}
	if b.Ind == "02" {
		out[4] = -10
	}
	return out
}

// same holds the rules, Score and Why against the parts.
func same(t *testing.T, p risk.Policy, b risk.Buy, want [5]int) {
	t.Helper()
	at, sum := 0, 0
	var why []string
	for name, rule := range risk.Rules() {
		if at == len(names) || name != names[at] {
			t.Fatalf("the %dth rule is %q", at, name)
		}
		if got := rule(p, b); got != want[at] {
			t.Errorf("%v, %v: %s adds %d, wanted %d", p, b, name, got, want[at])
		}
		if sum += want[at]; want[at] != 0 {
			why = append(why, name)
		}
		at++
	}
	if at != len(names) {
		t.Fatalf("there are %d rules", at)
	}
	if got := p.Score(b); got != max(sum, 0) {
		t.Errorf("%v, %v: Score = %d, wanted %d", p, b, got, max(sum, 0))
	}
	if got := p.Why(b); !slices.Equal(got, why) {
		t.Errorf("%v, %v: Why = %q, wanted %q", p, b, got, why)
	}
}

// change is one that a policy gets, and the error that is due then.
type change struct {
	do  func(p *risk.Policy)
	err api.Errno
}

// many gives so many steps, and codes.
func many(steps, codes int) (out risk.Policy) {
	for i := range steps {
		out.Steps = append(out.Steps, uint64(i))
	}
	for i := range codes {
		out.Codes = append(out.Codes, strconv.Itoa(1000+i))
	}
	return out
}

// P20.1: what may be, and each fault by itself.
func TestCheck(t *testing.T) {
	codes := func(err api.Errno, l ...string) change {
		return change{func(p *risk.Policy) { p.Codes = l }, err}
	}
	home := func(s string, err api.Errno) change {
		return change{func(p *risk.Policy) { p.Home = s }, err}
	}
	ends := func(low, high int, err api.Errno) change {
		return change{func(p *risk.Policy) { p.Low, p.High = low, high }, err}
	}
	l := []change{
		{func(p *risk.Policy) {}, api.OK},
		{func(p *risk.Policy) { *p = risk.Policy{} }, api.ErrForm},
		{func(p *risk.Policy) { *p = risk.Policy{Home: "000"} }, api.OK},
		{func(p *risk.Policy) { p.Steps = []uint64{} }, api.OK},
		{func(p *risk.Policy) { p.Steps = []uint64{math.MaxUint64, 0, 5, 5} }, api.OK}, // in whatever order
		codes(api.OK), codes(api.OK, "0000", "9999", "0000"),
		codes(api.ErrForm, ""), codes(api.ErrForm, "799"), codes(api.ErrForm, "79955"), codes(api.ErrForm, "799a"), codes(api.ErrForm, " 7995"), codes(api.ErrForm, "-799"),
		codes(api.ErrForm, "7995", "6051", "x"), codes(api.ErrForm, "", "7995"), codes(api.ErrForm, "٧٧"), codes(api.ErrForm, "799/"), codes(api.ErrForm, ":995"),
		home("000", api.OK), home("999", api.OK), home("", api.ErrForm), home("97", api.ErrForm), home("9788", api.ErrForm), home("EUR", api.ErrForm), home("97 ", api.ErrForm), home("+97", api.ErrForm), home("9\xff8", api.ErrForm),
		ends(0, 0, api.OK), ends(0, 1000, api.OK), ends(1000, 1000, api.OK), ends(500, 500, api.OK), ends(999, 1000, api.OK),
		ends(1, 0, api.ErrRange), ends(1000, 999, api.ErrRange), ends(-1, 0, api.ErrRange), ends(-1, -1, api.ErrRange), ends(0, -1, api.ErrRange), ends(0, 1001, api.ErrRange), ends(1001, 1001, api.ErrRange), ends(1001, 1000, api.ErrRange),
		ends(math.MinInt, math.MaxInt, api.ErrRange), ends(math.MaxInt, math.MinInt, api.ErrRange), ends(0, math.MaxInt, api.ErrRange), ends(math.MinInt, 0, api.ErrRange), ends(0, 1<<32, api.ErrRange), ends(1<<32, 1<<32+1, api.ErrRange),
	}
	for n := range 30 {
		want := api.OK
		if n > 8 {
			want = api.ErrMany
		}
		l = append(l, change{func(p *risk.Policy) { p.Steps = many(n, 0).Steps }, want}, change{func(p *risk.Policy) { p.Codes = many(0, n).Codes }, want})
	}
	for i, c := range l {
		p := usual()
		c.do(&p)
		if got := p.Check(); got != c.err {
			t.Errorf("%d, %v: Check() = %v, wanted %v", i, p, got, c.err)
		}
	}
}

// P20.1: of several faults the first one is told.
func TestCheckOrder(t *testing.T) {
	l := []change{
		{func(p *risk.Policy) { p.Steps = many(9, 0).Steps }, api.ErrMany},
		{func(p *risk.Policy) { p.Codes = append(many(0, 8).Codes, p.Codes...) }, api.ErrMany},
		{func(p *risk.Policy) { p.Codes[0] = "799" }, api.ErrForm},
		{func(p *risk.Policy) { p.Home = "" }, api.ErrForm},
		{func(p *risk.Policy) { p.Low = 61 }, api.ErrRange},
		{func(p *risk.Policy) { p.High = 1001 }, api.ErrRange},
	}
	for set := range 1 << len(l) {
		p, want := usual(), api.OK
		for i := len(l) - 1; i >= 0; i-- {
			if set>>i&1 == 1 {
				l[i].do(&p)
				want = l[i].err
			}
		}
		if got := p.Check(); got != want {
			t.Errorf("%v: Check() = %v, wanted %v", p, got, want)
		}
	}
}

// P20.1: what each rule adds, by itself.
func TestRules(t *testing.T) {
	amount := func(n uint64, add int) (risk.Buy, [5]int) {
		b := calm
		b.Amount = n
		return b, [5]int{add}
	}
	for n, add := range map[uint64]int{0: 0, 1: 0, 99: 0, 100: 10, 101: 10, 999: 10, 1000: 20, 9999: 20, 10000: 30, math.MaxUint64: 30, 1 << 63: 30, 1<<32 + 50: 30} {
		b, want := amount(n, add)
		same(t, usual(), b, want)
	}
	for code, add := range map[string]int{"7995": 30, "6051": 30, "5411": 0, "": 0, "799": 0, "79956": 0, "07995": 0, " 7995": 0, "7995,6051": 0} {
		b := calm
		b.MCC = code
		same(t, usual(), b, [5]int{1: add})
	}
	for s, add := range map[string]int{"01": 0, "02": 5, "03": 20, "": 0, "04": 0, "00": 0, "2": 0, "3": 0, "002": 0, "02 ": 0, "\xff": 0} {
		b := calm
		b.Channel = s
		same(t, usual(), b, [5]int{2: add})
	}
	for s, add := range map[string]int{"978": 0, "840": 15, "": 15, "97": 15, "0978": 15, "978 ": 15, "EUR": 15} {
		b := calm
		b.Currency = s
		same(t, usual(), b, [5]int{3: add})
	}
	for s, add := range map[string]int{"": 0, "01": 0, "02": -10, "03": 0, "04": 0, "05": 0, "2": 0, "02 ": 0} {
		b := calm
		b.Ind = s
		same(t, usual(), b, [5]int{4: add})
	}
}

// P20.1: policies of their own kind.
func TestPolicies(t *testing.T) {
	risky := risk.Buy{Amount: 5, MCC: "7995", Channel: "03", Currency: "840", Ind: "02"}
	for _, c := range []struct {
		p    risk.Policy
		b    risk.Buy
		want [5]int
	}{
		{usual(), calm, [5]int{}},
		{usual(), risk.Buy{}, [5]int{3: 15}},
		{risk.Policy{}, risk.Buy{}, [5]int{}},
		{risk.Policy{Home: "978"}, risky, [5]int{2: 20, 3: 15, 4: -10}},
		{risk.Policy{Steps: []uint64{0}, Home: "978"}, calm, [5]int{10}},
		{risk.Policy{Steps: []uint64{0}, Home: "978"}, risk.Buy{Currency: "978"}, [5]int{10}},
		{risk.Policy{Steps: []uint64{1}, Home: "978"}, risk.Buy{Currency: "978"}, [5]int{}},
		{risk.Policy{Steps: []uint64{5, 5, 5, 6}, Home: "978"}, risky, [5]int{30, 0, 20, 15, -10}},
		{risk.Policy{Steps: []uint64{9, 1, 7, 5, 3, 2, 4, 0}, Codes: []string{"7995", "7995"}, Home: "840"}, risky, [5]int{60, 30, 20, 0, -10}},
		{risk.Policy{Steps: []uint64{0, 0, 0, 0, 0, 0, 0, 0}, Codes: []string{"6051", "7995"}}, risky, [5]int{80, 30, 20, 15, -10}},
		{risk.Policy{Steps: []uint64{math.MaxUint64}, Home: "978"}, risk.Buy{Amount: math.MaxUint64 - 1, Currency: "978"}, [5]int{}},
		{risk.Policy{Steps: []uint64{math.MaxUint64}, Home: "978"}, risk.Buy{Amount: math.MaxUint64, Currency: "978"}, [5]int{10}},
	} {
		same(t, c.p, c.b, c.want)
	}
}

// P20.1: a score is at least 0, though Why names what is less.
func TestLeast(t *testing.T) {
	b := calm
	b.Ind = "02"
	p := usual()
	same(t, p, b, [5]int{4: -10})
	if p.Score(b) != 0 || !slices.Equal(p.Why(b), []string{"ind"}) {
		t.Errorf("Score = %d, Why = %q", p.Score(b), p.Why(b))
	}
	for channel, score := range map[string]int{"01": 0, "02": 0, "03": 10} {
		b.Channel = channel
		if got := p.Score(b); got != score {
			t.Errorf("%v: Score = %d, wanted %d", b, got, score)
		}
	}
}

// P20.1: the rules are gone through as often and as far as one likes.
func TestRulesLeft(t *testing.T) {
	seq := risk.Rules()
	for range 2 {
		for stop := range names {
			var got []string
			for name := range seq {
				if got = append(got, name); len(got) == stop+1 {
					break
				}
			}
			if !slices.Equal(got, names[:stop+1]) {
				t.Errorf("left at %d: %q", stop, got)
			}
		}
	}
}

// P20.2: what is done, by the mode and the wish for a challenge, the score
// being 0, 20, 60 and more.
func TestDecide(t *testing.T) {
	scored := func(channel, mcc, currency, ind string) risk.Buy {
		return risk.Buy{Channel: channel, MCC: mcc, Currency: currency, Ind: ind}
	}
	for _, c := range []struct {
		b         risk.Buy
		score     int
		low, high int
		want      string
	}{
		{scored("01", "", "978", ""), 0, 0, 0, "N"},
		{scored("01", "", "978", ""), 0, 0, 1, "C"},
		{scored("01", "", "978", ""), 0, 1, 1, "Y"},
		{scored("01", "", "978", "02"), 0, 0, 0, "N"},
		{scored("01", "", "978", "02"), 0, 1, 1, "Y"},
		{scored("03", "", "978", ""), 20, 20, 60, "C"},
		{scored("03", "", "978", ""), 20, 21, 60, "Y"},
		{scored("03", "", "978", ""), 20, 20, 20, "N"},
		{scored("03", "", "978", ""), 20, 19, 20, "N"},
		{scored("03", "", "978", ""), 20, 19, 21, "C"},
		{scored("03", "", "978", ""), 20, 21, 21, "Y"},
		{scored("03", "", "978", "01"), 20, 20, 60, "C"},
		{scored("03", "", "978", "02"), 10, 20, 60, "Y"},
		{scored("03", "", "978", "02"), 10, 10, 10, "N"},
		{scored("03", "7995", "840", ""), 65, 20, 60, "N"},
		{scored("03", "7995", "840", ""), 65, 20, 65, "N"},
		{scored("03", "7995", "840", ""), 65, 20, 66, "C"},
		{scored("03", "7995", "840", ""), 65, 66, 66, "Y"},
		{scored("03", "7995", "840", ""), 65, 1000, 1000, "Y"},
		{scored("03", "7995", "840", ""), 65, 0, 1000, "C"},
		{scored("03", "7995", "840", ""), 65, 0, 0, "N"},
		{scored("03", "", "978", ""), 20, 21, 20, "Y"}, // the one that is told first, where both would be
	} {
		p := usual()
		p.Low, p.High = c.low, c.high
		if got := p.Score(c.b); got != c.score {
			t.Errorf("%v: Score = %d, wanted %d", c.b, got, c.score)
		}
		decided(t, p, c.b, c.want)
		for ind, want := range map[string]string{"03": "C", "04": "C", "05": "", "3": "", "003": "", "03 ": ""} {
			b := c.b
			if b.Ind == "02" { // which would count
				continue
			}
			if b.Ind = ind; want == "" {
				want = c.want
			}
			decided(t, p, b, want)
		}
	}
}

// decided holds Decide against what is done in the mode Full, and in others.
func decided(t *testing.T, p risk.Policy, b risk.Buy, full string) {
	t.Helper()
	for mode, want := range map[int]string{
		ranges.Full: full, ranges.Attempts: "A", ranges.Off: "N",
		0: "N", 4: "N", -1: "N", 257: "N", 258: "N", 1<<32 + 1: "N", 1<<32 + 2: "N", math.MinInt: "N", math.MaxInt: "N",
	} {
		if got := p.Decide(b, mode); got != want {
			t.Errorf("%v: Decide(%v, %d) = %q, wanted %q", p, b, mode, got, want)
		}
	}
}

// request gives the message of what is required, with those texts.
func request(l ...string) message.Message {
	m := message.New(catalog.AReq)
	l = append([]string{"purchaseAmount", "12345", "mcc", "5411", "deviceChannel", "02", "purchaseCurrency", "978"}, l...)
	for i := 0; i < len(l); i += 2 {
		m = m.With(l[i], l[i+1])
	}
	return m
}

// P20.2: a message's purchase.
func TestOf(t *testing.T) {
	want := risk.Buy{Amount: 12345, MCC: "5411", Channel: "02", Currency: "978"}
	for _, c := range []struct {
		m  message.Message
		do func(b *risk.Buy)
	}{
		{request(), func(b *risk.Buy) {}},
		{request("challengeInd", "04"), func(b *risk.Buy) { b.Ind = "04" }},
		{request("merchantName", "x", "acctType", "03", "messageCategory", "01", "x", "y"), func(b *risk.Buy) {}},
		{request("mcc", "", "deviceChannel", "\xff", "purchaseCurrency", "EURO", "challengeInd", " "), func(b *risk.Buy) { *b = risk.Buy{12345, "", "\xff", "EURO", " "} }},
		{request().Without("mcc"), func(b *risk.Buy) { b.MCC = "" }},
		{request().Without("deviceChannel"), func(b *risk.Buy) { b.Channel = "" }},
		{request().Without("purchaseCurrency"), func(b *risk.Buy) { b.Currency = "" }},
		{request().Without("purchaseAmount"), func(b *risk.Buy) { b.Amount = 0 }},
		{message.Message{}, func(b *risk.Buy) { *b = risk.Buy{} }},
		{message.New(catalog.CRes), func(b *risk.Buy) { *b = risk.Buy{} }},
		{message.New(catalog.RReq).With("mcc", "7995"), func(b *risk.Buy) { *b = risk.Buy{MCC: "7995"} }}, // of any kind
		{message.Message{}.With("purchaseAmount", "7"), func(b *risk.Buy) { *b = risk.Buy{Amount: 7} }},
	} {
		b := want
		c.do(&b)
		if got := risk.Of(c.m); got != b {
			t.Errorf("Of = %v, wanted %v", got, b)
		}
	}
	for text, n := range map[string]uint64{
		"0": 0, "1": 1, "999999999999": 999999999999, "1000000000000": 1000000000000, "18446744073709551615": math.MaxUint64, "007": 7,
		"18446744073709551616": 0, strings.Repeat("9", 100): 0, "": 0, "x": 0, "1x": 0, "-1": 0, "+1": 0, "1.0": 0, "1e3": 0, " 1": 0, "1 ": 0, "1_0": 0, "0x10": 0, "٣": 0,
	} {
		if got := risk.Of(request("purchaseAmount", text)); got.Amount != n || got.MCC != "5411" {
			t.Errorf("Of with the amount %.30q = %v, wanted %d", text, got, n)
		}
	}
	s := `{"messageType":"AReq","messageVersion":"2.2.0","threeDSServerTransID":"30313233-3435-4637-b839-616263646566","acctNumber":"4111111111111111","purchaseAmount":"250","purchaseCurrency":"840","purchaseDate":"20240229235959","merchantName":"x","mcc":"7995","deviceChannel":"03","messageCategory":"01","challengeInd":"02"}`
	m, _, f := message.Parse(s)
	if got := risk.Of(m); f != (message.Fault{}) || got != (risk.Buy{250, "7995", "03", "840", "02"}) {
		t.Errorf("Of what is parsed = %v, %v", got, f)
	}
}

// pick gives one of the texts.
func pick(r *rand.Rand, l ...string) string { return l[r.IntN(len(l))] }

// random gives a policy that may be, and a purchase.
func random(r *rand.Rand) (risk.Policy, risk.Buy) {
	p := many(r.IntN(9), r.IntN(9))
	for i := range p.Steps {
		p.Steps[i] = r.Uint64N(20)
		if r.IntN(10) == 0 {
			p.Steps[i] = math.MaxUint64 - r.Uint64N(3)
		}
	}
	p.Home, p.High = pick(r, "978", "840"), r.IntN(150)
	p.Low = r.IntN(p.High + 1)
	b := risk.Buy{
		Amount: r.Uint64N(22), MCC: strconv.Itoa(1000 + r.IntN(10)), Channel: pick(r, "01", "02", "03", ""),
		Currency: pick(r, "978", "840", "x"), Ind: pick(r, "", "01", "02", "03", "04"),
	}
	if r.IntN(10) == 0 {
		b.Amount = math.MaxUint64 - r.Uint64N(3)
	}
	return p, b
}

// rank tells how little is let through.
func rank(s string) int { return strings.Index("YCN", s) }

// P20.1 to P20.3: policies and purchases by chance; more of an amount never
// makes a purchase less risky.
func TestChance(t *testing.T) {
	r := rand.New(rand.NewPCG(20, 3))
	met := map[string]int{}
	for range 20000 {
		p, b := random(r)
		if err := p.Check(); err != api.OK {
			t.Fatalf("%v: %v", p, err)
		}
		want := parts(p, b)
		same(t, p, b, want)
		score := max(0, want[0]+want[1]+want[2]+want[3]+want[4])
		full := "C"
		if b.Ind != "03" && b.Ind != "04" {
			if full = "C"; score >= p.High {
				full = "N"
			}
			if score < p.Low {
				full = "Y"
			}
		}
		met[full]++
		decided(t, p, b, full)
		more := b
		more.Amount += min(r.Uint64N(30), math.MaxUint64-b.Amount)
		if p.Score(more) < score || rank(p.Decide(more, ranges.Full)) < rank(full) {
			t.Errorf("%v: of %v %d, %s; of %v %d, %s", p, b, score, full, more, p.Score(more), p.Decide(more, ranges.Full))
		}
		if t.Failed() {
			return
		}
	}
	for _, s := range []string{"Y", "C", "N"} {
		if met[s] < 1000 {
			t.Errorf("%s was met %d times", s, met[s])
		}
	}
}

// The rule of memory: what is handed in isn't changed, nor shared with what
// is answered.
func TestMemory(t *testing.T) {
	p := usual()
	steps, codes := append(make([]uint64, 0, 20), 9, 1, 5), append(make([]string, 0, 20), "7995", "1000")
	p.Steps, p.Codes = steps, codes
	b := risk.Buy{Amount: 7, MCC: "1000", Channel: "03", Currency: "840", Ind: "02"}
	for range 2 {
		p.Check()
		p.Score(b)
		p.Decide(b, ranges.Full)
		why, other := p.Why(b), p.Why(b)
		clear(why[:cap(why)])
		if !slices.Equal(other, names) {
			t.Errorf("two answers of Why share memory: %q", other)
		}
	}
	if !slices.Equal(steps[:4], []uint64{9, 1, 5, 0}) || !slices.Equal(codes[:3], []string{"7995", "1000", ""}) {
		t.Errorf("what was handed in is changed: %v, %q", steps[:4], codes[:3])
	}
}

var (
	code     = regexp.MustCompile(`\A[0-9]{4}\z`)
	currency = regexp.MustCompile(`\A[0-9]{3}\z`)
)

// P1: every call ends and none panics, whatever is handed in; what is found is
// what the test finds.
func FuzzEnds(f *testing.F) {
	f.Add(uint64(100), "7995", "978", 20, 60, uint64(100), "7995", "02", "840", "02", 1, "100")
	f.Add(uint64(0), "", "", 0, 0, uint64(0), "", "", "", "", 0, "")
	f.Add(uint64(math.MaxUint64), "\xff", "9", math.MinInt, math.MaxInt, uint64(math.MaxUint64), "\xff", "03", "\xff", "03", math.MinInt, "18446744073709551616")
	f.Fuzz(func(t *testing.T, step uint64, mcc, home string, low, high int, amount uint64, bought, channel, paid, ind string, mode int, text string) {
		p := risk.Policy{Steps: []uint64{step, 5}, Codes: []string{mcc, "6051"}, Home: home, Low: low, High: high}
		b := risk.Buy{Amount: amount, MCC: bought, Channel: channel, Currency: paid, Ind: ind}
		want := api.OK
		switch {
		case !code.MatchString(mcc) || !currency.MatchString(home):
			want = api.ErrForm
		case !(0 <= low && low <= 1000 && 0 <= high && high <= 1000 && low <= high):
			want = api.ErrRange
		}
		if got := p.Check(); got != want {
			t.Errorf("%v: Check() = %v, wanted %v", p, got, want)
		}
		same(t, p, b, parts(p, b))
		if got := p.Decide(b, mode); rank(got) < 0 && got != "A" {
			t.Errorf("%v: Decide(%v, %d) = %q", p, b, mode, got)
		}
		got := risk.Of(message.Message{}.With("purchaseAmount", text).With("mcc", bought)).Amount
		n, ok := new(big.Int).SetString(text, 10)
		if !ok || !n.IsUint64() || strings.ContainsAny(text, "+-_") {
			n = new(big.Int)
		}
		if got != n.Uint64() {
			t.Errorf("Of with the amount %q: %d, wanted %d", text, got, n)
		}
	})
}
