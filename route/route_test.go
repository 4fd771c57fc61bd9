package route_test

import (
	"fmt"
	"maps"
	"math"
	"math/rand/v2"
	"regexp"
	"slices"
	"strings"
	"testing"

	"cashier/api"
	"cashier/book"
	"cashier/catalog"
	"cashier/message"
	"cashier/print"
	"cashier/proof"
	"cashier/route"
	"cashier/txn"
)

const noughts = "00000000-0000-0000-0000-000000000000"

// filled gives an id of that byte alone, and text that id's.
func filled(b byte) (u api.UUID) {
	for i := range u {
		u[i] = b
	}
	return u
}

func text(b byte) string {
	u := filled(b)
	return fmt.Sprintf("%x-%x-%x-%x-%x", u[:4], u[4:6], u[6:8], u[8:10], u[10:])
}

// entry gives one of those ids.
func entry(server, acs, ds byte) book.Entry {
	c := proof.Case{Server: filled(server), ACS: filled(acs), DS: filled(ds)}
	return book.Entry{Txn: txn.Txn{Case: c, Phase: txn.Done}, Seq: uint64(acs), Reply: "reply"}
}

// laid gives the book of these.
func laid(t *testing.T, l ...book.Entry) (b book.Book) {
	t.Helper()
	for _, e := range l {
		var err api.Errno
		if b, _, err = b.Put(e); err != api.OK {
			t.Fatal(err)
		}
	}
	return b
}

// with gives the message with further fields.
func with(m message.Message, l ...string) message.Message {
	for i := 0; i < len(l); i += 2 {
		m = m.With(l[i], l[i+1])
	}
	return m
}

// about gives a message of that kind with the three ids.
func about(kind int, server, acs, ds string) message.Message {
	return with(message.New(kind), "threeDSServerTransID", server, "acsTransID", acs, "dsTransID", ds)
}

// P26.1: AReq, CReq, RRes, Erro, PReq are taken, and nothing else.
func TestTaken(t *testing.T) {
	taken := []int{1, 3, 6, 7, 8}
	for kind := -300; kind <= 300; kind++ {
		if got := route.Taken(kind); got != slices.Contains(taken, kind) {
			t.Errorf("Taken(%d) = %v", kind, got)
		}
	}
	for _, kind := range []int{math.MinInt, math.MaxInt, 1<<32 + 1, 1<<8 + 3, -1 << 32} {
		if route.Taken(kind) {
			t.Errorf("Taken(%d)", kind)
		}
	}
}

// found holds what is found against what must be.
func found(t *testing.T, b book.Book, m message.Message, want book.Entry, code api.Code) {
	t.Helper()
	if got, c := route.Find(b, m); got != want || c != code {
		t.Errorf("%v: Find = %v, %d, wanted %v, %d", maps.Collect(m.Fields()), got, c, want, code)
	}
}

// missing tells whether nothing is found.
func missing(t *testing.T, b book.Book, m message.Message) {
	t.Helper()
	found(t, b, m, book.Entry{}, api.NoTransID)
}

// P26.1: a CReq's entry is that of its ACS's id, whose server's is its own; an
// RRes's that whose directory's is its own, too; an AReq's that of its server's.
func TestFind(t *testing.T) {
	one, two := entry(0x11, 0x21, 0x31), entry(0x12, 0x22, 0x32)
	b := laid(t, two, one)
	for n, e := range map[byte]book.Entry{1: one, 2: two} {
		server, acs, ds := text(0x10+n), text(0x20+n), text(0x30+n)
		for _, kind := range []int{catalog.AReq, catalog.CReq, catalog.RRes} {
			found(t, b, about(kind, server, acs, ds), e, api.Fine)
			missing(t, b, about(kind, text(0x13), acs, ds))
			missing(t, b, about(kind, "", acs, ds))
			missing(t, b, about(kind, server, acs, ds).Without("threeDSServerTransID"))
			missing(t, book.Book{}, about(kind, server, acs, ds))
		}
		other := text(0x13 - n)
		found(t, b, about(catalog.AReq, server, "", text(9)), e, api.Fine) // by its server's id alone
		found(t, b, message.New(catalog.AReq).With("threeDSServerTransID", server), e, api.Fine)
		found(t, b, about(catalog.CReq, server, acs, text(9)), e, api.Fine) // of a CReq the directory's counts for nothing
		found(t, b, about(catalog.CReq, server, acs, "").Without("dsTransID"), e, api.Fine)
		missing(t, b, about(catalog.RRes, server, acs, text(9)))
		missing(t, b, about(catalog.RRes, server, acs, text(0x33-n)))
		missing(t, b, about(catalog.RRes, server, acs, ds).Without("dsTransID"))
		for _, kind := range []int{catalog.CReq, catalog.RRes} {
			missing(t, b, about(kind, other, acs, ds))
			missing(t, b, about(kind, server, text(0x23-n), ds))
			missing(t, b, about(kind, acs, server, ds))
			missing(t, b, about(kind, server, acs, ds).Without("acsTransID"))
		}
	}
}

// P26.1: of another message there is none.
func TestFindOther(t *testing.T) {
	b := laid(t, entry(0x11, 0x21, 0x31), entry(0, 0, 0))
	for _, kind := range []int{-1, 0, catalog.ARes, catalog.CRes, catalog.RReq, catalog.Erro, catalog.PReq, catalog.PRes, 10} {
		missing(t, b, about(kind, text(0x11), text(0x21), text(0x31)))
		missing(t, b, message.New(kind))
	}
	for _, name := range []string{"", "areq", "AReq ", "x", "messageType"} {
		missing(t, b, about(catalog.AReq, text(0x11), text(0x21), text(0x31)).With("messageType", name))
	}
	missing(t, b, message.Message{})
}

// P26.1: a text that lacks, or is no id, counts as the zero id.
func TestFindZero(t *testing.T) {
	zero, some := entry(0, 0, 0), entry(0x11, 0x21, 0)
	b := laid(t, zero, some)
	none := []string{"", "x", noughts, noughts + " ", text(0x11)[:35], strings.ReplaceAll(text(0x11), "-", ""), strings.ToUpper(text(0xab)), "1111111-11111-1111-1111-111111111111", "\xff"}
	for _, server := range none {
		for _, kind := range []int{catalog.AReq, catalog.CReq, catalog.RRes} {
			found(t, b, about(kind, server, server, server), zero, api.Fine)
			found(t, b, message.New(kind), zero, api.Fine)
		}
		found(t, b, about(catalog.RRes, text(0x11), text(0x21), server), some, api.Fine)
		missing(t, b, about(catalog.RRes, text(0x11), server, server))
		missing(t, b, about(catalog.RRes, server, text(0x21), server))
		missing(t, b, about(catalog.CReq, text(0x11), server, server))
		missing(t, b, about(catalog.CReq, server, text(0x21), server))
		missing(t, laid(t, some), about(catalog.AReq, server, text(0x21), ""))
	}
	found(t, laid(t, entry(0, 0x21, 0x31)), about(catalog.RRes, "x", text(0x21), text(0x31)), entry(0, 0x21, 0x31), api.Fine)
	missing(t, laid(t, entry(0, 0x21, 0x31)), about(catalog.RRes, "x", text(0x21), noughts))
}

// sought gives the entry of a message in another way.
func sought(b book.Book, m message.Message) (book.Entry, api.Code) {
	form := regexp.MustCompile(`^[0-9a-f]{8}(-[0-9a-f]{4}){3}-[0-9a-f]{12}$`)
	id := func(name string) string {
		if s, _ := m.Get(name); form.MatchString(s) {
			return s
		}
		return noughts
	}
	kind, _ := m.Get("messageType")
	for e := range b.All() {
		c := e.Txn.Case
		server, acs, ds := id("threeDSServerTransID") == text(c.Server[0]), id("acsTransID") == text(c.ACS[0]), id("dsTransID") == text(c.DS[0])
		if kind == "AReq" && server || kind == "CReq" && server && acs || kind == "RRes" && server && acs && ds {
			return e, 0
		}
	}
	return book.Entry{}, 301
}

// P26.1: books and messages by chance.
func TestFindChance(t *testing.T) {
	r := rand.New(rand.NewPCG(26, 1))
	ends := map[api.Code]int{}
	for range 300 {
		b := book.Book{}
		for range r.IntN(4) {
			if next, _, err := b.Put(entry(byte(r.IntN(4)), byte(r.IntN(4)), byte(r.IntN(4)))); err == api.OK {
				b = next
			}
		}
		for range 30 {
			m := message.New(r.IntN(10))
			for _, name := range []string{"threeDSServerTransID", "acsTransID", "dsTransID"} {
				if n := r.IntN(6); n < 4 {
					m = m.With(name, text(byte(n)))
				} else if n == 4 {
					m = m.With(name, text(byte(n))[1:])
				}
			}
			want, code := sought(b, m)
			found(t, b, m, want, code)
			ends[code]++
		}
	}
	if ends[api.Fine] < 200 || ends[api.NoTransID] < 200 {
		t.Errorf("the ends: %v", ends)
	}
}

// P26.1: a text in the one way, or as it is.
func TestCanon(t *testing.T) {
	for s, want := range map[string]string{
		"[ 1 ]": "[1]", "[ 1": "[ 1", "": "", " ": " ", "{ \"b\" : 1, \"a\" : 2 }": `{"a":2,"b":1}`, `{"a":1,"\u0061":2}`: `{"a":1,"\u0061":2}`,
		` "\u0041" `: `"A"`, "\xff": "\xff", "[[[[[[[[[1]]]]]]]]]": "[[[[[[[[[1]]]]]]]]]", " null ": "null",
		strings.Repeat(" ", 4095) + "1": "1", strings.Repeat(" ", 4096) + "1": strings.Repeat(" ", 4096) + "1",
	} {
		if got := route.Canon(s); got != want {
			t.Errorf("Canon(%.50q) = %.50q, wanted %.50q", s, got, want)
		}
		if got, err := print.Canon(s); err == api.OK && got != want || err != api.OK && s != want {
			t.Errorf("of %.50q layer 8 has %.50q, %v", s, got, err)
		}
	}
}

// described is what the codes mean, in another way.
func described() map[api.Code]string {
	return map[api.Code]string{
		101: "message not recognised", 102: "version not supported", 201: "required field missing", 203: "format not valid", 204: "duplicate field",
		301: "transaction not known", 305: "transaction data not valid", 402: "timed out", 403: "system error",
	}
}

// P26.2: what the codes mean, and those that have a meaning.
func TestDescribe(t *testing.T) {
	codes := described()
	for c := api.Code(-500); c <= 1500; c++ {
		want, ok := codes[c]
		if !ok {
			want = "error"
		}
		if got := route.Describe(c); got != want {
			t.Errorf("Describe(%d) = %q, wanted %q", c, got, want)
		}
	}
	for _, c := range []api.Code{math.MinInt, math.MaxInt, 1<<32 + 101} {
		if got := route.Describe(c); got != "error" {
			t.Errorf("Describe(%d) = %q", c, got)
		}
	}
	row, want := route.Codes(), []api.Code{101, 102, 201, 203, 204, 301, 305, 402, 403}
	if got := slices.Collect(row); !slices.Equal(got, want) {
		t.Errorf("Codes() = %v", got)
	}
	for stop := range want { // left anywhere, and gone through again, one in another
		n := 0
		for c := range row {
			if c != want[n] || !slices.Equal(slices.Collect(row), want) {
				t.Errorf("at %d stands %d", n, c)
			}
			if n == stop {
				break
			}
			n++
		}
		if n != stop {
			t.Errorf("it was left at %d, not at %d", n, stop)
		}
	}
}

// told holds an Erro against the fields that it must have.
func told(t *testing.T, f message.Fault, m message.Message, want map[string]string) {
	t.Helper()
	if got := maps.Collect(route.Error(f, m).Fields()); !maps.Equal(got, want) {
		t.Errorf("%v of %v: %v, wanted %v", f, maps.Collect(m.Fields()), got, want)
	}
}

// erro gives the fields of an Erro of a fault of no kind, of a message without
// fields, with others.
func erro(code, description, detail string, l ...string) map[string]string {
	out := map[string]string{
		"messageType": "Erro", "messageVersion": "2.2.0", "errorCode": code, "errorComponent": "D", "errorDescription": description, "errorDetail": detail,
	}
	for i := 0; i < len(l); i += 2 {
		out[l[i]] = l[i+1]
	}
	return out
}

// P26.2: an Erro in full, and one of nothing.
func TestError(t *testing.T) {
	f := message.Fault{Code: api.Missing, Field: "mcc", Kind: catalog.AReq}
	m := about(catalog.AReq, text(0x11), text(0x22), text(0x33)).With("messageVersion", "2.1.0").With("mcc", "12").With("x", "y")
	told(t, f, m, map[string]string{
		"messageType": "Erro", "messageVersion": "2.1.0", "threeDSServerTransID": text(0x11), "dsTransID": text(0x33), "acsTransID": text(0x22),
		"errorCode": "201", "errorComponent": "D", "errorDescription": "required field missing", "errorDetail": "mcc", "errorMessageType": "AReq",
	})
	told(t, message.Fault{}, message.Message{}, erro("000", "error", ""))
	got, fault := route.Error(f, m).Text()
	if want := `{"messageType":"Erro","messageVersion":"2.1.0","threeDSServerTransID":"` + text(0x11) + `","dsTransID":"` + text(0x33) + `","acsTransID":"` + text(0x22) +
		`","errorCode":"201","errorComponent":"D","errorDescription":"required field missing","errorDetail":"mcc","errorMessageType":"AReq"}`; got != want || fault != (message.Fault{}) {
		t.Errorf("the text is %s, %v", got, fault)
	}
}

// P26.2: the message's version, if it is known.
func TestErrorVersion(t *testing.T) {
	for s, want := range map[string]string{
		"2.1.0": "2.1.0", "2.2.0": "2.2.0", "2.0.0": "2.2.0", "2.3.0": "2.2.0", "2.1.1": "2.2.0", "2.1": "2.2.0", "02.1.0": "2.2.0", "2.1.0 ": "2.2.0", "": "2.2.0", "x": "2.2.0", "\xff": "2.2.0",
	} {
		told(t, message.Fault{Code: 403}, message.Message{}.With("messageVersion", s), erro("403", "system error", "", "messageVersion", want))
	}
	told(t, message.Fault{Code: 403}, message.New(catalog.PReq).Without("messageVersion"), erro("403", "system error", ""))
}

// P26.2: the message's ids, each by itself, if they are ids, and not zero.
func TestErrorIDs(t *testing.T) {
	for _, name := range []string{"threeDSServerTransID", "dsTransID", "acsTransID"} {
		for _, s := range []string{text(0x11), text(0xab), text(0xff), "00000000-0000-0000-0000-000000000001", "10000000-0000-0000-0000-000000000000"} {
			told(t, message.Fault{}, message.Message{}.With(name, s), erro("000", "error", "", name, s))
		}
		for _, s := range []string{"", noughts, "x", text(0x11)[1:], text(0x11) + "1", strings.ToUpper(text(0xab)), strings.ReplaceAll(text(0x11), "-", ""), "\xff"} {
			told(t, message.Fault{}, about(0, text(1), text(1), text(1)).With(name, s), maps.Collect(func(yield func(string, string) bool) {
				for field, s := range erro("000", "error", "", "threeDSServerTransID", text(1), "dsTransID", text(1), "acsTransID", text(1)) {
					if field != name && !yield(field, s) {
						return
					}
				}
			}))
		}
	}
}

// P26.2: the fault's code, field and kind.
func TestErrorFault(t *testing.T) {
	for code, want := range map[api.Code]string{
		0: "000", 1: "001", 9: "009", 10: "010", 99: "099", 100: "100", 101: "101", 403: "403", 404: "404", 999: "999", 1000: "1000", math.MaxInt: "9223372036854775807",
		-1: "000", -101: "000", math.MinInt: "000",
	} {
		description, ok := described()[code]
		if !ok {
			description = "error"
		}
		told(t, message.Fault{Code: code}, message.Message{}, erro(want, description, ""))
	}
	for _, field := range []string{"", "mcc", "x", "\xff", " ", strings.Repeat("y", 5000), "errorDetail"} {
		told(t, message.Fault{Field: field}, message.Message{}.With(field, "z"), erro("000", "error", field))
	}
	names := []string{1: "AReq", "ARes", "CReq", "CRes", "RReq", "RRes", "Erro", "PReq", "PRes"}
	for kind := -300; kind <= 300; kind++ {
		want := erro("000", "error", "")
		if kind >= 1 && kind <= 9 {
			want["errorMessageType"] = names[kind]
		}
		told(t, message.Fault{Kind: kind}, message.New(3), want) // the fault's kind, not the message's
	}
	for _, kind := range []int{math.MinInt, math.MaxInt, 1<<32 + 1, -1 << 32} {
		told(t, message.Fault{Kind: kind}, message.New(3), erro("000", "error", ""))
	}
}

// P26.3: each Erro of a code that is described, and of a field of the catalog, or
// of none, may be.
func TestMayBe(t *testing.T) {
	fields := []string{""}
	for _, f := range catalog.Fields() {
		fields = append(fields, f.Name)
	}
	messages := []message.Message{{}, about(1, text(1), text(2), text(3)), about(7, "", noughts, "\xff").With("messageVersion", "\xff").With("errorCode", "x").With("x", "y")}
	for code := range route.Codes() {
		for _, field := range fields {
			for kind := -1; kind <= 10; kind++ {
				for _, m := range messages {
					e := route.Error(message.Fault{Code: code, Field: field, Kind: kind}, m)
					if f := e.Check(); f != (message.Fault{}) || e.Kind() != catalog.Erro {
						t.Errorf("an Erro of %d, %s, %d may not be: %v", code, field, kind, f)
					}
					s, _ := e.Text()
					if back, _, f := message.Parse(s); !message.Same(back, e) || f != (message.Fault{}) {
						t.Errorf("%s is read as something else: %v", s, f)
					}
				}
			}
		}
	}
}

// P26.3: likewise of whatever a text's fault is (layer 16), and of what was
// read of it.
func TestFaults(t *testing.T) {
	for s, want := range map[string]map[string]string{
		"{}":                     erro("101", "message not recognised", "messageType"),
		"x":                      erro("101", "message not recognised", ""),
		`{"a":1,"\u0061":2}`:     erro("204", "duplicate field", ""),
		`{"messageType":"x"}`:    erro("101", "message not recognised", "messageType"),
		`{"messageType":1}`:      erro("101", "message not recognised", "messageType"),
		`{"messageType":"A"}`:    erro("101", "message not recognised", "messageType"),
		`{"messageType":"PReq"}`: erro("201", "required field missing", "messageVersion", "errorMessageType", "PReq"),
		`{"messageType":"PReq","messageVersion":"2.3.0","threeDSServerTransID":"` + text(1) + `"}`: erro("102", "version not supported", "messageVersion",
			"errorMessageType", "PReq", "threeDSServerTransID", text(1)),
		`{"messageType":"PReq","messageVersion":"2.1.0","threeDSServerTransID":"` + noughts + `"}`: erro("203", "format not valid", "threeDSServerTransID",
			"errorMessageType", "PReq", "messageVersion", "2.1.0"),
		`{"messageType":"PReq","messageVersion":"2.1.0","threeDSServerTransID":"` + text(1) + `","serialNum":"x"}`: erro("203", "format not valid", "serialNum",
			"errorMessageType", "PReq", "messageVersion", "2.1.0", "threeDSServerTransID", text(1)),
	} {
		m, _, f := message.Parse(s)
		told(t, f, m, want)
		if f := route.Error(f, m).Check(); f != (message.Fault{}) {
			t.Errorf("of %s the Erro may not be: %v", s, f)
		}
	}
}

// The rule of memory: books and messages stay as they were.
func TestStays(t *testing.T) {
	b, m := laid(t, entry(0x11, 0x21, 0x31)), about(catalog.AReq, text(0x11), text(0x21), text(0x31))
	fields, entries := maps.Collect(m.Fields()), slices.Collect(b.All())
	first := route.Error(message.Fault{Code: 203, Field: "mcc"}, m)
	before := maps.Collect(first.Fields())
	route.Find(b, m)
	route.Error(message.Fault{Code: 101, Kind: 3}, m).With("errorCode", "x")
	first.With("errorDetail", "x")
	if !maps.Equal(maps.Collect(m.Fields()), fields) || !slices.Equal(slices.Collect(b.All()), entries) || !maps.Equal(maps.Collect(first.Fields()), before) {
		t.Error("something was changed")
	}
}

// P1: whatever there is.
func FuzzEnds(f *testing.F) {
	f.Add(201, "mcc", 1, "AReq", "2.1.0", text(1), text(2), text(3), "[ 1 ]")
	f.Add(-1, "\xff", math.MinInt, "CReq", "2.1.1", noughts, "", "x", "[ 1")
	f.Add(math.MaxInt, "", math.MaxInt, "RRes", "", text(0), text(0), text(0), "")
	f.Fuzz(func(t *testing.T, code int, field string, kind int, name, version, server, acs, ds, s string) {
		m := about(0, server, acs, ds).With("messageType", name).With("messageVersion", version)
		fault := message.Fault{Code: api.Code(code), Field: field, Kind: kind}
		e := route.Error(fault, m)
		if _, ok := described()[api.Code(code)]; ok != (route.Describe(api.Code(code)) != "error") {
			t.Errorf("Describe(%d) = %s", code, route.Describe(api.Code(code)))
		}
		_, known := catalog.Find(field)
		if f := e.Check(); f != (message.Fault{}) && code >= 0 && code <= 999 && (known || field == "") {
			t.Errorf("an Erro of %v may not be: %v", fault, f)
		}
		if v, _ := e.Get("messageVersion"); v != "2.2.0" && (v != version || v != "2.1.0") {
			t.Errorf("of the version %q %q", version, v)
		}
		if d, _ := e.Get("errorDetail"); d != field {
			t.Errorf("of %q %q", field, d)
		}
		b := laid(t, entry(0, 0, 0), entry(1, 2, 3))
		want, c := sought(b, m)
		found(t, b, m, want, c)
		if got := route.Canon(s); got != s && route.Canon(got) != got {
			t.Errorf("Canon(%q) = %q", s, got)
		}
		if route.Taken(kind) && (kind < 1 || kind > 8) {
			t.Errorf("Taken(%d)", kind)
		}
	})
}
