package message_test

import (
	"encoding/json"
	"iter"
	"maps"
	"math"
	"math/rand/v2"
	"slices"
	"strings"
	"testing"
	"unicode/utf16"

	"cashier/api"
	"cashier/catalog"
	rows "cashier/json"
	"cashier/message"
)

const (
	server = "30313233-3435-4637-b839-616263646566"
	proof  = "AAAAAAAAAAAAAAAAAAAAAAAAAAA="
)

// samples are texts that fit, and such as don't, by fields.
var samples = map[string][2]string{
	"messageType":            {"AReq", "XReq"},
	"messageVersion":         {"2.1.0", "1.0.2"},
	"threeDSServerTransID":   {server, "00000000-0000-0000-0000-000000000000"},
	"dsTransID":              {server, strings.ToUpper(server)},
	"acsTransID":             {server, ""},
	"acctNumber":             {"4111111111111111", "4111111111111112"},
	"purchaseAmount":         {"0", "00"},
	"purchaseCurrency":       {"978", "EUR"},
	"purchaseDate":           {"20240229235959", "20230229235959"},
	"merchantName":           {"a \"shop\" \\ €\U0001f600", "a\nshop"},
	"mcc":                    {"5411", "541"},
	"deviceChannel":          {"02", "04"},
	"messageCategory":        {"01", "03"},
	"challengeInd":           {"04", "05"},
	"acctType":               {"03", "3"},
	"transStatus":            {"Y", "D"},
	"transStatusReason":      {"11", "1"},
	"authenticationValue":    {proof, proof[:27]},
	"eci":                    {"05", "5"},
	"challengeWindowSize":    {"05", "06"},
	"challengeDataEntry":     {"123456", ""},
	"challengeCancel":        {"08", "09"},
	"challengeCompletionInd": {"Y", "y"},
	"challengeInfoText":      {"a \"code\"", "\xff"},
	"interactionCounter":     {"00", "000"},
	"resultsStatus":          {"01", "05"},
	"errorCode":              {"203", "20"},
	"errorComponent":         {"D", "B"},
	"errorDescription":       {"format not valid", ""},
	"errorDetail":            {"", "\x7f"},
	"errorMessageType":       {"AReq", "areq"},
	"serialNum":              {"18446744073709551616", "01"},
}

func good(name string) string { return samples[name][0] }
func bad(name string) string  { return samples[name][1] }

var names = [...]string{"", "AReq", "ARes", "CReq", "CRes", "RReq", "RRes", "Erro", "PReq", "PRes"}

// texts are a message as the tests have it.
type texts map[string]string

// but gives them with, behind a field's name each, other texts; without the
// field, where the text is a -.
func (x texts) but(l ...string) texts {
	out := maps.Clone(x)
	for i := 0; i < len(l); i += 2 {
		if out[l[i]] = l[i+1]; l[i+1] == "-" {
			delete(out, l[i])
		}
	}
	return out
}

// kindOf gives the number of the message that the texts are.
func kindOf(x texts) int { return max(0, slices.Index(names[:], x["messageType"])) }

// laid gives the message of the texts, laid in some order.
func (x texts) laid() message.Message {
	var m message.Message
	for name, text := range x {
		m = m.With(name, text)
	}
	return m
}

// whole gives the texts of a message that may be: with what is required
// alone, or with all that has a place, but for what would be against a
// condition.
func whole(kind int, full bool) texts {
	x := texts{}
	for f, required := range catalog.Of(kind) {
		if required || full {
			x[f.Name] = good(f.Name)
		}
	}
	x["messageType"] = names[kind]
	switch {
	case full && kind == catalog.CReq:
		delete(x, "challengeCancel")
	case full:
	case kind == catalog.ARes, kind == catalog.RReq:
		x["transStatus"] = "C"
	case kind == catalog.CRes:
		x["challengeCompletionInd"] = "N"
	}
	return x
}

// bases gives messages of all kinds that may be.
func bases() []texts {
	var out []texts
	for kind := catalog.AReq; kind <= catalog.PRes; kind++ {
		out = append(out, whole(kind, false), whole(kind, true))
	}
	return append(out,
		whole(catalog.ARes, true).but("transStatus", "A"),
		whole(catalog.RReq, true).but("transStatus", "U", "authenticationValue", "-"),
		whole(catalog.CReq, false).but("challengeCancel", "01"),
		whole(catalog.CRes, true).but("transStatus", "N"),
		whole(catalog.CRes, true).but("transStatus", "-", "challengeCompletionInd", "N"))
}

// ranked is a fault, and how early it is told: the lowest class first, in it
// the lowest place.
type ranked struct {
	class, at int
	name      string
	code      api.Code
}

// wanted gives the fault of the texts, and of fields that are there as
// something else, by gathering all.
func wanted(x texts, odd map[string]bool) message.Fault {
	kind := kindOf(x)
	if kind == 0 {
		return message.Fault{Code: api.NotKnown, Field: "messageType"}
	}
	var all []ranked
	for i, f := range catalog.Fields() {
		text, there := x[f.Name]
		fits := there && f.Rule.Fits(text)
		there = there || odd[f.Name]
		version := f.Name == "messageVersion"
		switch in := f.In[kind-1]; {
		case version && !there:
			all = append(all, ranked{1, 0, f.Name, api.Missing})
		case version && !fits:
			all = append(all, ranked{2, 0, f.Name, api.NoVersion})
		case in == 'R' && !there:
			all = append(all, ranked{3, i, f.Name, api.Missing})
		case in != '-' && there && !fits:
			all = append(all, ranked{4, i, f.Name, api.Format})
		case in == '-' && there:
			all = append(all, ranked{5, i, f.Name, api.Format})
		}
	}
	for name := range x {
		if _, ok := samples[name]; !ok {
			all = append(all, ranked{5, len(samples), name, api.Format})
		}
	}
	all = append(all, against(kind, x)...)
	if len(all) == 0 {
		return message.Fault{}
	}
	first := slices.MinFunc(all, func(a, b ranked) int {
		if a.class != b.class {
			return a.class - b.class
		}
		if a.at != b.at {
			return a.at - b.at
		}
		return strings.Compare(a.name, b.name)
	})
	return message.Fault{Code: first.code, Field: first.name, Kind: kind}
}

// against gives what is against a condition.
func against(kind int, x texts) []ranked {
	status, told := x["transStatus"]
	_, valued := x["authenticationValue"]
	_, entered := x["challengeDataEntry"]
	_, cancelled := x["challengeCancel"]
	over := x["challengeCompletionInd"] == "Y"
	final := status == "Y" || status == "A"
	switch {
	case (kind == 2 || kind == 5) && final && !valued:
		return []ranked{{6, 0, "authenticationValue", api.Missing}}
	case (kind == 2 || kind == 5) && !final && valued:
		return []ranked{{6, 0, "authenticationValue", api.Format}}
	case kind == 4 && over && !told:
		return []ranked{{6, 0, "transStatus", api.Missing}}
	case kind == 4 && told && (!over || status != "Y" && status != "N"):
		return []ranked{{6, 0, "transStatus", api.Format}}
	case kind == 3 && entered && cancelled:
		return []ranked{{6, 0, "challengeCancel", api.Format}}
	}
	return nil
}

// check holds Check and Text of the texts' message against a fault.
func check(t *testing.T, x texts, want message.Fault) {
	t.Helper()
	m := x.laid()
	if got := m.Check(); got != want {
		t.Errorf("%q: Check() = %v, wanted %v", x, got, want)
	}
	s, got := m.Text()
	if got != want || (s == "") == (want == message.Fault{}) {
		t.Errorf("%q: Text() = %q, %v, wanted %v", x, s, got, want)
	}
}

// pairs gives what Fields goes through.
func pairs(m message.Message) [][2]string {
	var out [][2]string
	for name, text := range m.Fields() {
		out = append(out, [2]string{name, text})
	}
	return out
}

// otherKinds are numbers of no kind.
var otherKinds = []int{0, -1, -2, 10, 11, 257, 1<<32 + 1, math.MinInt, math.MaxInt}

// P16.1: a message of a kind.
func TestNew(t *testing.T) {
	for kind := 1; kind <= 9; kind++ {
		m := message.New(kind)
		want := [][2]string{{"messageType", names[kind]}, {"messageVersion", "2.2.0"}}
		if got := pairs(m); !slices.Equal(got, want) || m.Kind() != kind {
			t.Errorf("New(%d): %q, of kind %d", kind, got, m.Kind())
		}
	}
	for _, kind := range otherKinds {
		m := message.New(kind)
		if got := pairs(m); len(got) != 0 || m.Kind() != 0 || !message.Same(m, message.Message{}) {
			t.Errorf("New(%d): %q, of kind %d", kind, got, m.Kind())
		}
		if f := m.Check(); f != (message.Fault{Code: api.NotKnown, Field: "messageType"}) {
			t.Errorf("New(%d): %v", kind, f)
		}
	}
}

// P16.1: with a field, without it; what they were made of stays as it was.
func TestWith(t *testing.T) {
	for _, m := range []message.Message{{}, message.New(0), message.New(8), message.New(8).Without("messageType").Without("messageVersion")} {
		before := pairs(m)
		one := m.With("mcc", "5411")
		two := one.With("mcc", "").With("\xff", "\x00")
		three := two.Without("mcc")
		if text, ok := one.Get("mcc"); text != "5411" || !ok {
			t.Errorf("with a field: %q, %v", text, ok)
		}
		if text, ok := two.Get("mcc"); text != "" || !ok {
			t.Errorf("with its other text: %q, %v", text, ok)
		}
		if text, ok := three.Get("mcc"); text != "" || ok {
			t.Errorf("without it: %q, %v", text, ok)
		}
		if text, ok := three.Get("\xff"); text != "\x00" || !ok {
			t.Errorf("another field: %q, %v", text, ok)
		}
		if len(pairs(one)) != len(before)+1 || len(pairs(two)) != len(before)+2 || len(pairs(three)) != len(before)+1 {
			t.Errorf("%q: %q, %q, %q", before, pairs(one), pairs(two), pairs(three))
		}
		if !slices.Equal(pairs(m), before) || !message.Same(three.Without("\xff"), m) || !message.Same(m.Without("mcc"), m) {
			t.Errorf("%q became %q", before, pairs(m))
		}
	}
}

// P16.1: one field's text, and the kind.
func TestGet(t *testing.T) {
	m := message.New(catalog.CReq).With("acsTransID", server).With("", "none").With("eci", "")
	for name, want := range map[string]string{"messageType": "CReq", "messageVersion": "2.2.0", "acsTransID": server, "": "none", "eci": ""} {
		if text, ok := m.Get(name); text != want || !ok {
			t.Errorf("Get(%q) = %q, %v", name, text, ok)
		}
	}
	for _, name := range []string{"mcc", " ", "MessageType", "messageType ", "acsTransId", "\x00", "none"} {
		if text, ok := m.Get(name); text != "" || ok {
			t.Errorf("Get(%q) = %q, %v", name, text, ok)
		}
	}
	for kind, name := range names {
		if got := m.With("messageType", name).Kind(); got != kind {
			t.Errorf("the kind of %q is %d", name, got)
		}
	}
	for _, name := range []string{"creq", "CReq ", "CReqs", "3", "\x03"} {
		if got := m.With("messageType", name).Kind(); got != 0 {
			t.Errorf("the kind of %q is %d", name, got)
		}
	}
	if m.Without("messageType").Kind() != 0 || (message.Message{}).Kind() != 0 {
		t.Error("what has no messageType has a kind")
	}
	if text, ok := (message.Message{}).Get("messageType"); text != "" || ok {
		t.Errorf("the zero one has %q, %v", text, ok)
	}
}

// P16.1: fields in order, whatever the order they came in.
func TestFields(t *testing.T) {
	strange := []string{"", "\x00", "MESSAGETYPE", "aaa", "aab", "cardRangeData", "zzz", "é", "€", "\xff"}
	for range 200 {
		x := texts{}
		var want [][2]string
		for _, f := range catalog.Fields() {
			if rand.IntN(2) == 0 {
				x[f.Name] = bad(f.Name)
				want = append(want, [2]string{f.Name, bad(f.Name)})
			}
		}
		for _, name := range strange {
			if rand.IntN(2) == 0 {
				x[name] = name + "!"
				want = append(want, [2]string{name, name + "!"})
			}
		}
		m := x.laid()
		fields := m.Fields()
		for stop := range len(want) + 1 {
			var got [][2]string
			for name, text := range fields {
				if len(got) == stop {
					break
				}
				got = append(got, [2]string{name, text})
			}
			if !slices.Equal(got, want[:stop]) {
				t.Fatalf("%q up to %d: %q, wanted %q", x, stop, got, want)
			}
		}
	}
	if !slices.IsSorted(strange) {
		t.Error("the test's own names don't rise")
	}
}

// P16.1: have two the same fields and texts?
func TestSame(t *testing.T) {
	m := message.New(1).With("mcc", "5411").With("x", "")
	for _, c := range []struct {
		other message.Message
		want  bool
	}{
		{m, true},
		{message.Message{}.With("x", "").With("mcc", "5411").With("messageVersion", "2.2.0").With("messageType", "AReq"), true},
		{m.With("mcc", "5412").With("mcc", "5411"), true},
		{m.With("eci", "05").Without("eci"), true},
		{m.With("mcc", "5412"), false},
		{m.With("eci", ""), false},
		{m.Without("x"), false},
		{m.Without("x").With("y", ""), false},
		{m.Without("mcc").With("mcC", "5411"), false},
		{m.With("messageType", "ARes"), false},
		{message.New(1), false},
		{message.Message{}, false},
	} {
		if message.Same(m, c.other) != c.want || message.Same(c.other, m) != c.want {
			t.Errorf("Same as %q: not %v", pairs(c.other), c.want)
		}
	}
	if !message.Same(message.Message{}, message.New(-1)) || !message.Same(message.Message{}, message.Message{}.With("a", "").Without("a")) {
		t.Error("two without fields aren't the same")
	}
}

// P16.2: what may be.
func TestMayBe(t *testing.T) {
	for _, x := range bases() {
		check(t, x, message.Fault{})
	}
	for name := range samples {
		f, ok := catalog.Find(name)
		if !ok || !f.Rule.Fits(good(name)) || f.Rule.Fits(bad(name)) {
			t.Errorf("%s: the test's own texts are wrong", name)
		}
	}
}

// P16.2: one fault, by hand.
func TestCheck(t *testing.T) {
	areq, ares, creq, cres := whole(1, true), whole(2, true), whole(3, true), whole(4, true)
	rreq, erro, preq, pres := whole(5, true), whole(7, true), whole(8, true), whole(9, false)
	for _, c := range []struct {
		x     texts
		code  api.Code
		field string
		kind  int
	}{
		{texts{}, api.NotKnown, "messageType", 0},
		{areq.but("messageType", "-"), api.NotKnown, "messageType", 0},
		{areq.but("messageType", ""), api.NotKnown, "messageType", 0},
		{areq.but("messageType", "areq"), api.NotKnown, "messageType", 0},
		{areq.but("messageVersion", "-"), api.Missing, "messageVersion", 1},
		{areq.but("messageVersion", ""), api.NoVersion, "messageVersion", 1},
		{areq.but("messageVersion", "2.3.0"), api.NoVersion, "messageVersion", 1},
		{areq.but("mcc", "-"), api.Missing, "mcc", 1},
		{areq.but("mcc", ""), api.Format, "mcc", 1},
		{areq.but("challengeInd", "00"), api.Format, "challengeInd", 1},
		{areq.but("acctNumber", "4111111111111112"), api.Format, "acctNumber", 1},
		{areq.but("dsTransID", server), api.Format, "dsTransID", 1},
		{areq.but("more", ""), api.Format, "more", 1},
		{areq.but("", ""), api.Format, "", 1},
		{areq.but("messageType", "ARes"), api.Missing, "dsTransID", 2},
		{ares.but("authenticationValue", "-"), api.Missing, "authenticationValue", 2},
		{ares.but("transStatus", "A", "authenticationValue", "-"), api.Missing, "authenticationValue", 2},
		{ares.but("transStatus", "N"), api.Format, "authenticationValue", 2},
		{ares.but("transStatus", "U"), api.Format, "authenticationValue", 2},
		{ares.but("transStatus", "C"), api.Format, "authenticationValue", 2},
		{ares.but("transStatus", "R"), api.Format, "authenticationValue", 2},
		{ares.but("transStatus", "-"), api.Missing, "transStatus", 2},
		{ares.but("transStatus", "D"), api.Format, "transStatus", 2},
		{ares.but("authenticationValue", ""), api.Format, "authenticationValue", 2},
		{creq.but("challengeCancel", "01"), api.Format, "challengeCancel", 3},
		{creq.but("challengeDataEntry", ""), api.Format, "challengeDataEntry", 3},
		{cres.but("transStatus", "-"), api.Missing, "transStatus", 4},
		{cres.but("transStatus", "A"), api.Format, "transStatus", 4},
		{cres.but("challengeCompletionInd", "N"), api.Format, "transStatus", 4},
		{cres.but("challengeCompletionInd", "N", "transStatus", "U"), api.Format, "transStatus", 4},
		{cres.but("challengeCompletionInd", "-"), api.Missing, "challengeCompletionInd", 4},
		{cres.but("authenticationValue", proof), api.Format, "authenticationValue", 4},
		{rreq.but("authenticationValue", "-"), api.Missing, "authenticationValue", 5},
		{rreq.but("transStatus", "N"), api.Format, "authenticationValue", 5},
		{whole(6, true).but("transStatus", "Y"), api.Format, "transStatus", 6},
		{erro.but("errorDetail", "-"), api.Missing, "errorDetail", 7},
		{erro.but("errorDetail", strings.Repeat("x", 301)), api.Format, "errorDetail", 7},
		{erro.but("acsTransID", "x"), api.Format, "acsTransID", 7},
		{preq.but("threeDSServerTransID", "-"), api.Missing, "threeDSServerTransID", 8},
		{preq.but("mcc", "5411"), api.Format, "mcc", 8},
		{pres.but("serialNum", "-"), api.Missing, "serialNum", 9},
		{pres.but("serialNum", "007"), api.Format, "serialNum", 9},
		{pres.but("cardRangeData", "[]"), api.Format, "cardRangeData", 9},
	} {
		want := message.Fault{Code: c.code, Field: c.field, Kind: c.kind}
		if other := wanted(c.x, nil); other != want {
			t.Errorf("%q: the test itself wants %v and %v", c.x, want, other)
		}
		check(t, c.x, want)
	}
}

// P16.2: which of several faults comes first, by hand.
func TestFirst(t *testing.T) {
	areq, ares := whole(1, true), whole(2, true)
	for _, c := range []struct {
		x     texts
		code  api.Code
		field string
	}{
		{areq.but("messageType", "-", "messageVersion", "-", "mcc", "-"), api.NotKnown, "messageType"},
		{areq.but("messageType", "x", "messageVersion", "x", "mcc", "x", "more", "x"), api.NotKnown, "messageType"},
		{areq.but("messageVersion", "-", "threeDSServerTransID", "x", "dsTransID", "x", "acctNumber", "-"), api.Missing, "messageVersion"},
		{areq.but("messageVersion", "x", "threeDSServerTransID", "-"), api.NoVersion, "messageVersion"},
		{areq.but("messageVersion", "x", "threeDSServerTransID", "x", "more", ""), api.NoVersion, "messageVersion"},
		{areq.but("threeDSServerTransID", "x", "messageCategory", "-"), api.Missing, "messageCategory"},
		{areq.but("mcc", "-", "merchantName", "-", "acctNumber", "x"), api.Missing, "merchantName"},
		{areq.but("mcc", "x", "merchantName", "\n", "dsTransID", server), api.Format, "merchantName"},
		{areq.but("acctType", "x", "challengeInd", "x"), api.Format, "challengeInd"},
		{areq.but("acctType", "x", "dsTransID", server, "aaa", ""), api.Format, "acctType"},
		{areq.but("serialNum", "1", "dsTransID", server, "aaa", ""), api.Format, "dsTransID"},
		{areq.but("serialNum", "1", "aaa", "", "", ""), api.Format, "serialNum"},
		{areq.but("aab", "", "aaa", "", "aac", ""), api.Format, "aaa"},
		{areq.but("dsTransID", "x", "acctType", "x"), api.Format, "acctType"},
		{ares.but("transStatus", "N", "eci", "x"), api.Format, "eci"},
		{ares.but("transStatus", "N", "mcc", "5411"), api.Format, "mcc"},
		{ares.but("authenticationValue", "-", "more", ""), api.Format, "more"},
		{ares.but("authenticationValue", "-", "acsTransID", "-"), api.Missing, "acsTransID"},
		{ares.but("transStatus", "x", "authenticationValue", "x", "transStatusReason", "x"), api.Format, "transStatus"},
		{whole(3, true).but("challengeCancel", "x"), api.Format, "challengeCancel"},
		{whole(3, true).but("challengeDataEntry", "", "challengeCancel", "x"), api.Format, "challengeDataEntry"},
		{whole(3, true).but("challengeCancel", "01", "mcc", ""), api.Format, "mcc"},
		{whole(4, true).but("transStatus", "A", "challengeInfoText", ""), api.Format, "challengeInfoText"},
		{whole(4, true).but("transStatus", "-", "challengeWindowSize", "01"), api.Format, "challengeWindowSize"},
	} {
		want := message.Fault{Code: c.code, Field: c.field}
		want.Kind = slices.Index(names[:], c.x["messageType"])
		if c.code == api.NotKnown {
			want.Kind = 0
		}
		if other := wanted(c.x, nil); other != want {
			t.Errorf("%q: the test itself wants %v and %v", c.x, want, other)
		}
		check(t, c.x, want)
	}
}

// changed is one thing that becomes of a message: a field is dropped, or has
// another text, or, in JSON alone, is no string.
type changed struct {
	name, text string
	gone, odd  bool
}

// changes gives all that the tests do to a field of a message of that kind,
// each by itself.
func changes(kind int) []changed {
	var out []changed
	for _, f := range catalog.Fields() {
		out = append(out, changed{name: f.Name, text: good(f.Name)}, changed{name: f.Name, odd: true})
		if f.In[kind-1] != '-' {
			out = append(out, changed{name: f.Name, text: bad(f.Name)}, changed{name: f.Name, gone: true})
		}
	}
	return append(out, changed{name: "transStatus", text: "N"}, changed{name: "challengeCompletionInd", text: "N"},
		changed{name: "more", text: ""}, changed{name: "More", text: "x"}, changed{name: "", text: "x"}, changed{name: "more", odd: true})
}

// everyTwo goes through every two changes of the messages.
func everyTwo(l ...texts) iter.Seq2[texts, []changed] {
	return func(yield func(texts, []changed) bool) {
		for _, base := range l {
			some := changes(kindOf(base))
			for i, one := range some {
				for _, other := range some[i:] {
					if !yield(base, []changed{one, other}) {
						return
					}
				}
			}
		}
	}
}

// many goes through so many messages, each with some changes.
func many(n int) iter.Seq2[texts, []changed] {
	return func(yield func(texts, []changed) bool) {
		all := bases()
		for range n {
			base := all[rand.IntN(len(all))]
			l := changes(kindOf(base))
			var some []changed
			for range rand.IntN(8) {
				some = append(some, l[rand.IntN(len(l))])
			}
			if !yield(base, some) {
				return
			}
		}
	}
}

// done gives what the changes make of the texts, and which fields are no
// strings.
func done(x texts, l ...changed) (texts, map[string]bool) {
	x, odd := maps.Clone(x), map[string]bool{}
	for _, c := range l {
		delete(x, c.name)
		delete(odd, c.name)
		switch {
		case c.odd:
			odd[c.name] = true
		case !c.gone:
			x[c.name] = c.text
		}
	}
	return x, odd
}

// P16.2: every two changes of every message.
func TestTwoFaults(t *testing.T) {
	for base, l := range everyTwo(bases()...) {
		if x, odd := done(base, l...); len(odd) == 0 {
			check(t, x, wanted(x, nil))
		}
		if t.Failed() {
			return
		}
	}
}

// P16.2: many changes at once.
func TestManyFaults(t *testing.T) {
	for base, l := range many(10000) {
		if x, odd := done(base, l...); len(odd) == 0 {
			check(t, x, wanted(x, nil))
		}
		if t.Failed() {
			return
		}
	}
}

// P16.2: conditions, with all statuses.
func TestConditions(t *testing.T) {
	for _, status := range []string{"-", "Y", "N", "U", "A", "C", "R"} {
		for _, value := range []string{"-", proof} {
			for _, kind := range []int{catalog.ARes, catalog.RReq} {
				x := whole(kind, true).but("transStatus", status, "authenticationValue", value)
				may := (status == "Y" || status == "A") == (value == proof) && status != "-"
				if got := x.laid().Check(); (got == message.Fault{}) != may {
					t.Errorf("%q: %v", x, got)
				}
				check(t, x, wanted(x, nil))
			}
		}
		for _, over := range []string{"Y", "N"} {
			x := whole(catalog.CRes, false).but("transStatus", status, "challengeCompletionInd", over)
			may := over == "N" && status == "-" || over == "Y" && (status == "Y" || status == "N")
			if got := x.laid().Check(); (got == message.Fault{}) != may {
				t.Errorf("%q: %v", x, got)
			}
			check(t, x, wanted(x, nil))
		}
	}
}

// P16.2: the message as it is written.
func TestText(t *testing.T) {
	for _, c := range []struct {
		m    message.Message
		want string
	}{
		{message.New(catalog.PReq).With("threeDSServerTransID", server), `{"messageType":"PReq","messageVersion":"2.2.0","threeDSServerTransID":"` + server + `"}`},
		{whole(4, true).laid(), `{"messageType":"CRes","messageVersion":"2.1.0","threeDSServerTransID":"` + server + `","acsTransID":"` + server +
			`","transStatus":"Y","challengeCompletionInd":"Y","challengeInfoText":"a \"code\""}`},
		{whole(3, false).but("challengeDataEntry", "\"\\/é€\U0001f600 ").laid(), `{"messageType":"CReq","messageVersion":"2.1.0","threeDSServerTransID":"` + server + `","acsTransID":"` + server +
			`","challengeWindowSize":"05","challengeDataEntry":"\"\\/é€😀 "}`},
	} {
		if got, f := c.m.Text(); got != c.want || f != (message.Fault{}) {
			t.Errorf("Text() = %s, %v, wanted %s", got, f, c.want)
		}
	}
	if got, f := (message.Message{}).Text(); got != "" || f != (message.Fault{Code: api.NotKnown, Field: "messageType"}) {
		t.Errorf("Text() of the zero one = %q, %v", got, f)
	}
}

// blanks gives some, or none.
func blanks() string { return strings.Repeat(" ", rand.IntN(2)) + "\t\n\r "[:rand.IntN(5)] }

// quoted gives the text as JSON, in one way of many.
func quoted(s string) string {
	const digits = "0123456789abcdefABCDEF"
	var out strings.Builder
	out.WriteByte('"')
	for _, r := range s {
		if rand.IntN(4) > 0 && r >= ' ' && r != '"' && r != '\\' {
			out.WriteRune(r)
			continue
		}
		for _, unit := range utf16.Encode([]rune{r}) {
			out.WriteString(`\u`)
			for shift := 12; shift >= 0; shift -= 4 {
				digit := int(unit >> shift & 15)
				if digit > 9 {
					digit += 6 * rand.IntN(2)
				}
				out.WriteByte(digits[digit])
			}
		}
	}
	out.WriteByte('"')
	return out.String()
}

// shuffled gives an object's text, its members in some order and way: strings,
// and those that are none.
func shuffled(x texts, odd map[string]bool) string {
	others := []string{"null", "true", "false", "0", "-1.5e3", "[]", "{}", `["Y"]`, `{"messageType":"AReq"}`}
	var members []string
	for name, text := range x {
		members = append(members, blanks()+quoted(name)+blanks()+":"+blanks()+quoted(text)+blanks())
	}
	for name := range odd {
		members = append(members, blanks()+quoted(name)+blanks()+":"+blanks()+others[rand.IntN(len(others))]+blanks())
	}
	rand.Shuffle(len(members), func(i, j int) { members[i], members[j] = members[j], members[i] })
	return blanks() + "{" + strings.Join(members, ",") + "}" + blanks()
}

// placed gives those of the texts, and of the fields that are no strings, that
// count: which have a place in the message.
func placed(x texts, odd map[string]bool) (texts, map[string]bool) {
	some, others := texts{}, map[string]bool{}
	kind := kindOf(x)
	for f := range catalog.Of(kind) {
		if text, ok := x[f.Name]; ok {
			some[f.Name] = text
		}
		if odd[f.Name] {
			others[f.Name] = true
		}
	}
	return some, others
}

// parsed holds what Parse makes of the text against a message and a fault.
func parsed(t *testing.T, s string, m message.Message, want message.Fault) {
	t.Helper()
	got, row, f := message.Parse(s)
	if f != want || !message.Same(got, m) {
		t.Errorf("Parse(%q) = %q, %v, wanted %q, %v", s, pairs(got), f, pairs(m), want)
	}
	whole, _ := rows.Parse(s)
	if want != (message.Fault{}) {
		whole = nil
	}
	if !slices.Equal(row, whole) {
		t.Errorf("Parse(%q): the row %v, wanted %v", s, row, whole)
	}
}

// P16.3: what is no message at all.
func TestParseNone(t *testing.T) {
	none, kind := message.Fault{Code: api.NotKnown}, message.Fault{Code: api.NotKnown, Field: "messageType"}
	twice := message.Fault{Code: api.Duplicate}
	right, _ := whole(8, false).laid().Text()
	for s, want := range map[string]message.Fault{
		"":                               none, // no JSON
		"{":                              none,
		"{}x":                            none,
		"AReq":                           none,
		right + right:                    none,
		right[:len(right)-1]:             none,
		`{"messageType":"AReq",}`:        none,
		"{\"messageType\":\"\xff\"}":     none, // no UTF-8
		`{"messageType":"AReq\ud800"}`:   none,
		right + strings.Repeat(" ", 9e3): none, // too long
		strings.Repeat("[", 9) + strings.Repeat("]", 9):                   none,
		`{"messageType":"PReq","x":[[[[[[[[]]]]]]]]}`:                     none, // too deep
		`{"messageType":"PReq","x":[0` + strings.Repeat(",0", 256) + `]}`: none, // too many
		`{"messageType":"PReq","messageType":"PReq"}`:                     twice,
		`{"messageType":"PReq","message\u0054ype":5}`:                     twice,
		`{"a":1,"\u0061":2}`:                                              twice,
		`{"messageType":"PReq","x":{"y":0,"y":0}}`:                        twice,
		`[{"a":0,"a":0}]`:                                                 twice,
		`{"a":1,"a":2,"x":"\ud800"}`:                                      none, // an error ahead of that
		`{"a":1,"a":2,"x":[[[[[[[[]]]]]]]]}`:                              none,
		`{"a":1,"a":2`:                                                    none,
		"[]":                                                              kind,
		"{}":                                                              kind,
		"null":                                                            kind,
		"1":                                                               kind,
		`"AReq"`:                                                          kind,
		`"messageType"`:                                                   kind,
		"[" + right + "]":                                                 kind,
		`["messageType","PReq"]`:                                          kind,
		`{"message":` + right + `}`:                                       kind,
		`{"messageType":null}`:                                            kind,
		`{"messageType":8}`:                                               kind,
		`{"messageType":true,"messageVersion":"2.2.0"}`: kind,
		`{"messageType":["PReq"]}`:                      kind,
		`{"messageType":{"messageType":"PReq"}}`:        kind,
		`{"messageType":""}`:                            kind,
		`{"messageType":"preq"}`:                        kind,
		`{"messageType":"PReq "}`:                       kind,
		`{"MessageType":"PReq"}`:                        kind,
		`{"messageVersion":"9","threeDSServerTransID":5,"mcc":"5411","errorDetail":0}`: kind,
	} {
		parsed(t, s, message.Message{}, want)
	}
}

// P16.3: what is read, and its faults, by hand.
func TestParse(t *testing.T) {
	const open = `{"messageType":"PReq","messageVersion":"2.2.0","threeDSServerTransID":`
	preq := message.New(catalog.PReq)
	right := preq.With("threeDSServerTransID", server)
	for _, c := range []struct {
		s     string
		m     message.Message
		code  api.Code
		field string
	}{
		{open + `"` + server + `"}`, right, 0, ""},
		{open + `"` + server + `","serialNum":"7"}`, right.With("serialNum", "7"), 0, ""},
		{"\t" + open + ` "` + server + "\" \n}\r", right, 0, ""},
		// Others count for nothing, whatever they are.
		{open + `"` + server + `","mcc":"5411","acctNumber":"x","dsTransID":5,"more":"x","":[{}],"eci":null}`, right, 0, ""},
		{`{"cardRangeData":[{"messageType":"AReq"}],` + open[1:] + `"` + server + `"}`, right, 0, ""},
		{`{"messageType":"PReq"}`, preq.Without("messageVersion"), api.Missing, "messageVersion"},
		{`{"messageType":"PReq","messageVersion":"2.0.0"}`, preq.With("messageVersion", "2.0.0"), api.NoVersion, "messageVersion"},
		{`{"messageType":"PReq","messageVersion":null}`, preq.Without("messageVersion"), api.NoVersion, "messageVersion"},
		{`{"messageType":"PReq","messageVersion":2.2,"threeDSServerTransID":[],"serialNum":"x"}`, preq.Without("messageVersion").With("serialNum", "x"), api.NoVersion, "messageVersion"},
		{`{"messageType":"PReq","messageVersion":["2.2.0"]}`, preq.Without("messageVersion"), api.NoVersion, "messageVersion"},
		{`{"messageType":"PReq","messageVersion":"2.2.0"}`, preq, api.Missing, "threeDSServerTransID"},
		{`{"messageType":"PReq","messageVersion":"2.2.0","serialNum":7}`, preq, api.Missing, "threeDSServerTransID"},
		{open + `null}`, preq, api.Format, "threeDSServerTransID"},
		{open + `5,"serialNum":"x"}`, preq.With("serialNum", "x"), api.Format, "threeDSServerTransID"},
		{open + `"x","serialNum":5}`, preq.With("threeDSServerTransID", "x"), api.Format, "threeDSServerTransID"},
		{open + `"` + server + `","serialNum":5}`, right, api.Format, "serialNum"},
		{open + `"` + server + `","serialNum":["5"],"mcc":5}`, right, api.Format, "serialNum"},
		{open + `"` + server + `","serialNum":{"serialNum":"5"}}`, right, api.Format, "serialNum"},
		{open + `"` + server + `","serialNum":""}`, right.With("serialNum", ""), api.Format, "serialNum"},
	} {
		want := message.Fault{Code: c.code, Field: c.field, Kind: catalog.PReq}
		if c.code == api.Fine {
			want = message.Fault{}
		}
		parsed(t, c.s, c.m, want)
	}
	// A value that is no string is there, but not as the status asks.
	ares := whole(catalog.ARes, false).but("transStatus", "Y")
	parsed(t, shuffled(ares, nil), ares.laid(), message.Fault{Code: api.Missing, Field: "authenticationValue", Kind: catalog.ARes})
	parsed(t, shuffled(ares, map[string]bool{"authenticationValue": true}), ares.laid(), message.Fault{Code: api.Format, Field: "authenticationValue", Kind: catalog.ARes})
	creq := whole(catalog.CReq, true)
	parsed(t, shuffled(creq, map[string]bool{"challengeCancel": true, "acsTransIDs": true}), creq.laid(), message.Fault{Code: api.Format, Field: "challengeCancel", Kind: catalog.CReq})
}

// read holds Parse against the faults of what the changes make of the texts,
// in some order, with some blanks.
func read(t *testing.T, base texts, l ...changed) {
	t.Helper()
	x, odd := done(base, l...)
	for name, text := range x {
		if strings.Contains(text, "\xff") { // that were no JSON
			x[name] = strings.ReplaceAll(text, "\xff", "")
		}
	}
	some, others := placed(x, odd)
	s := shuffled(x, odd)
	parsed(t, s, some.laid(), wanted(some, others))
}

// P16.3: every two changes of a message of each kind.
func TestParseTwoFaults(t *testing.T) {
	for kind := catalog.AReq; kind <= catalog.PRes; kind++ {
		for base, l := range everyTwo(whole(kind, true)) {
			read(t, base, l...)
			if t.Failed() {
				return
			}
		}
	}
}

// P16.3: many changes at once.
func TestParseManyFaults(t *testing.T) {
	for base, l := range many(10000) {
		read(t, base, l...)
		if t.Failed() {
			return
		}
	}
}

// P16.4: faults hang on no blanks and no order of members.
func TestOrder(t *testing.T) {
	for base, l := range many(2000) {
		x, odd := done(base, l...)
		if strings.Contains(x["challengeInfoText"], "\xff") {
			continue
		}
		m, _, f := message.Parse(shuffled(x, odd))
		for range 5 {
			if other, _, g := message.Parse(shuffled(x, odd)); f != g || !message.Same(m, other) {
				t.Fatalf("%q: %v, %v", x, f, g)
			}
		}
	}
}

// full gives a fitting text of the rule's greatest length, of those bytes.
func full(name, letter string, n int) texts { return texts{name: strings.Repeat(letter, n)} }

// P16.4: what is written is read as it was.
func TestBack(t *testing.T) {
	all := bases()
	for _, letter := range []string{"x", `"`, `\`, "/", " ", "é", "\u0080", "€", "\u2028", "\ufeff", "\ufffd", "\U0001f600", "\U0010ffff", "<", "&"} {
		all = append(all,
			merged(whole(1, true), full("merchantName", letter, 40)),
			merged(whole(3, true), full("challengeDataEntry", letter, 45)),
			merged(whole(4, true), full("challengeInfoText", letter, 350)),
			merged(whole(7, true), full("errorDescription", letter, 200), full("errorDetail", letter, 300)))
	}
	for _, x := range all {
		m := x.laid()
		s, f := m.Text()
		if f != (message.Fault{}) || len(s) > api.MaxText || len(s) > catalog.Bytes(m.Kind())+1 {
			t.Errorf("%.200q: %d bytes, %v", x, len(s), f)
		}
		parsed(t, s, m, message.Fault{})
		var other texts
		if err := json.Unmarshal([]byte(s), &other); err != nil || !maps.Equal(other, x) {
			t.Errorf("%.200q: %v", s, err)
		}
		if again, _ := other.laid().Text(); again != s {
			t.Errorf("%.200q is written again as %.200q", s, again)
		}
	}
}

func merged(x texts, l ...texts) texts {
	for _, y := range l {
		maps.Copy(x, y)
	}
	return x
}

// The rule of memory: what is handed out isn't kept.
func TestMemory(t *testing.T) {
	s, _ := whole(9, false).laid().Text()
	m, row, _ := message.Parse(s)
	other, kept, _ := message.Parse(s)
	want := slices.Clone(kept)
	clear(row[:cap(row)])
	if !message.Same(m, other) || !slices.Equal(kept, want) {
		t.Error("what Parse gives shares memory")
	}
	if back, f := m.Text(); back != s || f != (message.Fault{}) {
		t.Errorf("the message has become %q, %v", back, f)
	}
}

// P1 and P16.4: whatever text comes, there is an end, and what is read may be,
// and is written and read as it was.
func FuzzParse(f *testing.F) {
	for _, x := range bases() {
		f.Add(shuffled(x, nil))
	}
	f.Add("")
	f.Add("{}")
	f.Add(`{"messageType":"Erro","messageVersion":7,"messageType":""}`)
	f.Add(`{"messageType":"CRes","messageVersion":"2.2.0","transStatus":null}`)
	f.Fuzz(func(t *testing.T, s string) {
		m, row, fault := message.Parse(s)
		if fault == (message.Fault{}) {
			text, f := m.Text()
			back, _, g := message.Parse(text)
			if m.Check() != f || f != g || f != fault || !message.Same(m, back) || len(row) == 0 {
				t.Errorf("Parse(%q), written as %q: %v, %v", s, text, f, g)
			}
			return
		}
		if row != nil || fault.Kind != m.Kind() || fault.Kind == 0 && len(pairs(m)) > 0 {
			t.Errorf("Parse(%q) = %q, %v, %v", s, pairs(m), row, fault)
		}
		if around := " " + s + "\n"; len(around) <= api.MaxText {
			if other, _, g := message.Parse(around); g != fault || !message.Same(m, other) {
				t.Errorf("Parse(%q): %v, and with blanks %v", s, fault, g)
			}
		}
	})
}

// P1: whatever names, texts and kinds come, there is an end; Check has what
// the test finds.
func FuzzCheck(f *testing.F) {
	f.Add(1, "mcc", "5411", "", "")
	f.Add(4, "transStatus", "Y", "challengeCompletionInd", "N")
	f.Add(math.MinInt, "\xff", "\xff", "messageType", "AReq")
	f.Fuzz(func(t *testing.T, kind int, a, x, b, y string) {
		m := message.New(kind)
		all := texts{}
		if 1 <= kind && kind <= 9 {
			m, all = whole(kind, true).laid(), whole(kind, true)
		}
		all[a], all[b] = x, y
		m = m.With(a, x).With(b, y)
		if !message.Same(m, all.laid()) || len(pairs(m)) != len(all) {
			t.Errorf("%q: %q", all, pairs(m))
		}
		if got, want := m.Check(), wanted(all, nil); got != want {
			t.Errorf("%q: Check() = %v, wanted %v", all, got, want)
		}
		if text, _ := m.Without(a).Get(a); text != "" {
			t.Errorf("without %q it has %q", a, text)
		}
	})
}
