package catalog_test

import (
	"iter"
	"math"
	"reflect"
	"slices"
	"strconv"
	"strings"
	"testing"

	"cashier/api"
	"cashier/catalog"
	"cashier/format"
)

// table is the chapter's, line by line: name, rule, letters.
const table = `
messageType | Among AReq, ARes, CReq, CRes, RReq, RRes, Erro, PReq, PRes | RRRRRRRRR
messageVersion | Among 2.1.0, 2.2.0 | RRRRRRRRR
threeDSServerTransID | ID | RRRRRRoRR
dsTransID | ID | -R--RRo-R
acsTransID | ID | -RRRRRo--
acctNumber | Card | R--------
purchaseAmount | Amount 1 to 12 | R--------
purchaseCurrency | Digits 3 | R--------
purchaseDate | Date | R--------
merchantName | Text 1 to 40 | R--------
mcc | Digits 4 | R--------
deviceChannel | Among 01, 02, 03 | R--------
messageCategory | Among 01, 02 | R---R----
challengeInd | Among 01, 02, 03, 04 | o--------
acctType | Among 01, 02, 03 | o--------
transStatus | Among Y, N, U, A, C, R | -R-oR----
transStatusReason | Digits 2 | -o--o----
authenticationValue | Proof 20 | -o--o----
eci | Digits 2 | -o--o----
challengeWindowSize | Among 01, 02, 03, 04, 05 | --R------
challengeDataEntry | Text 1 to 45 | --o------
challengeCancel | Among 01, 02, 03, 04, 05, 06, 07, 08 | --o------
challengeCompletionInd | Among Y, N | ---R-----
challengeInfoText | Text 1 to 350 | ---o-----
interactionCounter | Digits 2 | ----R----
resultsStatus | Among 01, 02, 03, 04 | -----R---
errorCode | Digits 3 | ------R--
errorComponent | Among A, C, D, S | ------R--
errorDescription | Text 1 to 200 | ------R--
errorDetail | Text 0 to 300 | ------R--
errorMessageType | Among AReq, ARes, CReq, CRes, RReq, RRes, Erro, PReq, PRes | ------o--
serialNum | Amount 1 to 20 | -------oR`

// told gives the table's fields.
func told(t *testing.T) []catalog.Field {
	t.Helper()
	var out []catalog.Field
	for _, line := range strings.Split(strings.TrimSpace(table), "\n") {
		cells := strings.Split(line, " | ")
		out = append(out, catalog.Field{Name: cells[0], Rule: rule(t, cells[1]), In: cells[2]})
	}
	return out
}

// rule gives the rule that the table's words tell.
func rule(t *testing.T, words string) format.Rule {
	t.Helper()
	kind, rest, _ := strings.Cut(words, " ")
	var r format.Rule
	for number, name := range format.Kinds() {
		if name == strings.ToLower(kind) {
			r.Kind = number
		}
	}
	switch {
	case rest == "":
	case r.Kind == format.Among:
		r.Texts = strings.Split(rest, ", ")
	default:
		min, max, span := strings.Cut(rest, " to ")
		r.Min = number(t, min)
		if span {
			r.Max = number(t, max)
		} else if r.Kind == format.Digits {
			r.Max = r.Min
		}
	}
	return r
}

func number(t *testing.T, s string) int {
	t.Helper()
	n, err := strconv.Atoi(s)
	if err != nil {
		t.Fatal(err)
	}
	return n
}

// same tells whether two fields are alike; without texts, nil or empty.
func same(a, b catalog.Field) bool {
	return a.Name == b.Name && a.In == b.In && a.Rule.Kind == b.Rule.Kind && a.Rule.Min == b.Rule.Min &&
		a.Rule.Max == b.Rule.Max && slices.Equal(a.Rule.Texts, b.Rule.Texts)
}

// all gives what Fields goes through.
func all(t *testing.T) []catalog.Field {
	t.Helper()
	var out []catalog.Field
	for i, f := range catalog.Fields() {
		if i != len(out) {
			t.Fatalf("the %dth field comes as %d", len(out), i)
		}
		out = append(out, f)
	}
	return out
}

// place is what Of tells at a time.
type place struct {
	name     string
	required bool
}

func places(seq iter.Seq2[catalog.Field, bool]) []place {
	var out []place
	for f, required := range seq {
		out = append(out, place{f.Name, required})
	}
	return out
}

// others are numbers of no message.
var others = []int{0, -1, -2, -9, 10, 11, 19, 256, 257, 265, 1 << 32, 1<<32 + 1, math.MinInt, math.MinInt + 1, math.MaxInt}

// P15.1: the messages' numbers.
func TestNumbers(t *testing.T) {
	got := []int{catalog.AReq, catalog.ARes, catalog.CReq, catalog.CRes, catalog.RReq, catalog.RRes, catalog.Erro, catalog.PReq, catalog.PRes}
	if !slices.Equal(got, []int{1, 2, 3, 4, 5, 6, 7, 8, 9}) {
		t.Errorf("the messages are %v", got)
	}
}

// P15.1: the messages' names.
func TestMessages(t *testing.T) {
	want := [10]string{"", "AReq", "ARes", "CReq", "CRes", "RReq", "RRes", "Erro", "PReq", "PRes"}
	if got := catalog.Messages(); got != want {
		t.Errorf("Messages() = %q", got)
	}
	for n, name := range want {
		if got := catalog.Message(name); got != n {
			t.Errorf("Message(%q) = %d, wanted %d", name, got, n)
		}
	}
	names := catalog.Messages()
	names[1] = "other"
	if catalog.Messages() != want || catalog.Message("other") != 0 {
		t.Error("the names are changed by who got them")
	}
}

// P15.1: no message's name.
func TestNoMessage(t *testing.T) {
	for _, name := range []string{"", " ", "areq", "AREQ", "Areq", "AReq ", " AReq", "AReq\x00", "AReqARes", "ARe", "Req", "Error", "erro", "1", "messageType", "\xff", strings.Repeat("AReq", 1000)} {
		if got := catalog.Message(name); got != 0 {
			t.Errorf("Message(%.20q) = %d", name, got)
		}
	}
}

// P15.1: all fields, in order.
func TestFields(t *testing.T) {
	got, want := all(t), told(t)
	if len(got) != 32 || len(want) != 32 {
		t.Fatalf("%d fields, wanted %d", len(got), len(want))
	}
	for i := range want {
		if !same(got[i], want[i]) {
			t.Errorf("field %d is %v, wanted %v", i, got[i], want[i])
		}
		if err := got[i].Rule.Check(); err != api.OK {
			t.Errorf("%s: %v", got[i].Name, err)
		}
	}
}

// P15.1: what each message may have, in order, and what it must.
func TestOf(t *testing.T) {
	for message := 1; message <= 9; message++ {
		var want []place
		for _, f := range told(t) {
			switch f.In[message-1] {
			case 'R':
				want = append(want, place{f.Name, true})
			case 'o':
				want = append(want, place{f.Name, false})
			}
		}
		if got := places(catalog.Of(message)); !slices.Equal(got, want) {
			t.Errorf("Of(%d): %v, wanted %v", message, got, want)
		}
		for f := range catalog.Of(message) {
			if whole, ok := catalog.Find(f.Name); !ok || !same(f, whole) {
				t.Errorf("Of(%d): %v isn't as Find has it", message, f)
			}
		}
	}
	// Once by hand:
	want := []place{{"messageType", true}, {"messageVersion", true}, {"threeDSServerTransID", true}, {"acsTransID", true},
		{"transStatus", false}, {"challengeCompletionInd", true}, {"challengeInfoText", false}}
	if got := places(catalog.Of(catalog.CRes)); !slices.Equal(got, want) {
		t.Errorf("Of(CRes): %v", got)
	}
}

// P15.1: no message has no fields.
func TestOfNone(t *testing.T) {
	for _, n := range others {
		if got := places(catalog.Of(n)); len(got) != 0 {
			t.Errorf("Of(%d): %v", n, got)
		}
	}
}

// P15.1: fields by their names.
func TestFind(t *testing.T) {
	for _, want := range told(t) {
		if got, ok := catalog.Find(want.Name); !ok || !same(got, want) {
			t.Errorf("Find(%s) = %v, %v", want.Name, got, ok)
		}
	}
	f, ok := catalog.Find("mcc")
	if !ok || f.Rule.Kind != format.Digits || f.Rule.Min != 4 || f.Rule.Max != 4 {
		t.Errorf("Find(mcc) = %v, %v", f, ok)
	}
	for _, name := range []string{"", " ", "MCC", "Mcc", "mcc ", " mcc", "mcc\x00", "mc", "mccc", "messagetype", "AReq", "acctnumber", "cardRangeData", "\xff", strings.Repeat("mcc", 1000)} {
		if got, ok := catalog.Find(name); ok || !reflect.ValueOf(got).IsZero() {
			t.Errorf("Find(%.20q) = %v, %v", name, got, ok)
		}
	}
}

// P15.1: what the fields' rules take, and what they don't, at their edges.
func TestRules(t *testing.T) {
	const id, card = "30313233-3435-4637-b839-616263646566", "4111111111111111"
	proof := strings.Repeat("A", 27) + "="
	for name, c := range map[string]struct{ fit, unfit []string }{
		"messageType":            {[]string{"AReq", "ARes", "CReq", "CRes", "RReq", "RRes", "Erro", "PReq", "PRes"}, []string{"", "areq", "Error"}},
		"messageVersion":         {[]string{"2.1.0", "2.2.0"}, []string{"", "2.0.0", "2.3.0", "2.2", "2.2.0.0", "2.3.1"}},
		"threeDSServerTransID":   {[]string{id}, []string{"", "00000000-0000-0000-0000-000000000000", id + "0"}},
		"dsTransID":              {[]string{id}, []string{"", strings.ToUpper(id)}},
		"acsTransID":             {[]string{id}, []string{"", "x"}},
		"acctNumber":             {[]string{card}, []string{"", "4111111111111112", "411111111111"}},
		"purchaseAmount":         {[]string{"0", "1", "999999999999"}, []string{"", "00", "01", "1000000000000", "1.0", "-1"}},
		"purchaseCurrency":       {[]string{"000", "978"}, []string{"", "97", "9780", "EUR"}},
		"purchaseDate":           {[]string{"20240229235959"}, []string{"", "20230229000000", "2024022923595"}},
		"merchantName":           {[]string{"x", strings.Repeat("€", 40)}, []string{"", strings.Repeat("x", 41), "a\n", "\xff"}},
		"mcc":                    {[]string{"0000", "5411"}, []string{"", "541", "54110", "541a"}},
		"deviceChannel":          {[]string{"01", "02", "03"}, []string{"", "00", "04", "1"}},
		"messageCategory":        {[]string{"01", "02"}, []string{"", "00", "03"}},
		"challengeInd":           {[]string{"01", "04"}, []string{"", "00", "05"}},
		"acctType":               {[]string{"01", "03"}, []string{"", "00", "04"}},
		"transStatus":            {[]string{"Y", "N", "U", "A", "C", "R"}, []string{"", "D", "I", "y", "YN"}},
		"transStatusReason":      {[]string{"00", "99"}, []string{"", "1", "100", "0x"}},
		"authenticationValue":    {[]string{proof}, []string{"", proof[1:], "A" + proof, proof[:27], strings.Repeat("A", 28)}},
		"eci":                    {[]string{"00", "05"}, []string{"", "5", "005"}},
		"challengeWindowSize":    {[]string{"01", "05"}, []string{"", "00", "06"}},
		"challengeDataEntry":     {[]string{"1", strings.Repeat("é", 45)}, []string{"", strings.Repeat("1", 46), "1\x7f"}},
		"challengeCancel":        {[]string{"01", "02", "03", "04", "05", "06", "07", "08"}, []string{"", "00", "09", "1"}},
		"challengeCompletionInd": {[]string{"Y", "N"}, []string{"", "U", "n"}},
		"challengeInfoText":      {[]string{"x", strings.Repeat("\U0001f600", 350)}, []string{"", strings.Repeat("x", 351)}},
		"interactionCounter":     {[]string{"00", "99"}, []string{"", "0", "100"}},
		"resultsStatus":          {[]string{"01", "04"}, []string{"", "00", "05"}},
		"errorCode":              {[]string{"000", "203"}, []string{"", "20", "2030"}},
		"errorComponent":         {[]string{"A", "C", "D", "S"}, []string{"", "B", "a"}},
		"errorDescription":       {[]string{"x", strings.Repeat("x", 200)}, []string{"", strings.Repeat("x", 201)}},
		"errorDetail":            {[]string{"", strings.Repeat("x", 300)}, []string{strings.Repeat("x", 301), "\x1f"}},
		"errorMessageType":       {[]string{"AReq", "PRes"}, []string{"", "XReq"}},
		"serialNum":              {[]string{"0", "99999999999999999999"}, []string{"", "00", "07", "100000000000000000000"}},
	} {
		f, _ := catalog.Find(name)
		for _, s := range c.fit {
			if !f.Rule.Fits(s) {
				t.Errorf("%s: %.50q doesn't fit", name, s)
			}
		}
		for _, s := range c.unfit {
			if f.Rule.Fits(s) {
				t.Errorf("%s: %.50q fits", name, s)
			}
		}
	}
}

// P15.2: how many bytes there are, by hand and by the table.
func TestBytes(t *testing.T) {
	for message, want := range []int{0,
		// Names, texts, and six for each.
		11 + 14 + 20 + 10 + 14 + 16 + 12 + 12 + 3 + 13 + 15 + 12 + 8 + 4 + 5 + 36 + 19 + 12 + 3 + 14 + 160 + 4 + 2 + 2 + 2 + 2 + 13*6,
		11 + 14 + 20 + 9 + 10 + 11 + 17 + 19 + 3 + 4 + 5 + 36 + 36 + 36 + 1 + 2 + 28 + 2 + 9*6,
		11 + 14 + 20 + 10 + 19 + 18 + 15 + 4 + 5 + 36 + 36 + 2 + 180 + 2 + 7*6,
		11 + 14 + 20 + 10 + 11 + 22 + 17 + 4 + 5 + 36 + 36 + 1 + 1 + 1400 + 7*6,
		11 + 14 + 20 + 9 + 10 + 15 + 11 + 17 + 19 + 3 + 18 + 4 + 5 + 36 + 36 + 36 + 2 + 1 + 2 + 28 + 2 + 2 + 11*6,
		11 + 14 + 20 + 9 + 10 + 13 + 4 + 5 + 36 + 36 + 36 + 2 + 6*6,
		11 + 14 + 20 + 9 + 10 + 9 + 14 + 16 + 11 + 16 + 4 + 5 + 36 + 36 + 36 + 3 + 1 + 800 + 1200 + 4 + 10*6,
		11 + 14 + 20 + 9 + 4 + 5 + 36 + 20 + 4*6,
		11 + 14 + 20 + 9 + 9 + 4 + 5 + 36 + 36 + 20 + 5*6,
	} {
		if got := catalog.Bytes(message); got != want {
			t.Errorf("Bytes(%d) = %d, wanted %d", message, got, want)
		}
	}
	for message := 1; message <= 9; message++ {
		want := 0
		for _, f := range told(t) {
			if f.In[message-1] != '-' {
				want += len(f.Name) + f.Rule.Longest() + 6
			}
		}
		if got := catalog.Bytes(message); got != want {
			t.Errorf("Bytes(%d) = %d, wanted %d", message, got, want)
		}
	}
	for _, n := range others {
		if got := catalog.Bytes(n); got != 0 {
			t.Errorf("Bytes(%d) = %d", n, got)
		}
	}
}

// P15.3: names are unlike, and messages fit.
func TestWhatFollows(t *testing.T) {
	count := map[string]int{}
	for _, f := range catalog.Fields() {
		if count[f.Name]++; count[f.Name] > 1 || f.Name == "" {
			t.Errorf("%q stands there twice, or is none", f.Name)
		}
		if len(f.In) != 9 || strings.Trim(f.In, "Ro-") != "" {
			t.Errorf("%s: %q", f.Name, f.In)
		}
	}
	for message := 1; message <= 9; message++ {
		if n := catalog.Bytes(message); n <= 0 || n > api.MaxText {
			t.Errorf("Bytes(%d) = %d", message, n)
		}
	}
}

// P1, and the rule of rows: they are left anywhere, and gone through again.
func TestLeft(t *testing.T) {
	fields := catalog.Fields()
	for stop := range 33 {
		seen := 0
		for i := range fields {
			if i == stop {
				break
			}
			seen++
		}
		if seen != stop {
			t.Errorf("%d fields up to the one at %d", seen, stop)
		}
	}
	for message := 0; message <= 10; message++ {
		of := catalog.Of(message)
		whole := places(of)
		for stop := range len(whole) {
			var got []place
			for f, required := range of {
				if got = append(got, place{f.Name, required}); len(got) > stop {
					break
				}
			}
			if !slices.Equal(got, whole[:stop+1]) {
				t.Errorf("Of(%d) up to %d: %v", message, stop, got)
			}
		}
		if got := places(of); !slices.Equal(got, whole) {
			t.Errorf("Of(%d) once more: %v", message, got)
		}
	}
}

// The rule of memory: no answer shares any.
func TestMemory(t *testing.T) {
	spoil := func(f catalog.Field) {
		room := f.Rule.Texts[:cap(f.Rule.Texts)]
		for i := range room {
			room[i] = "spoilt"
		}
	}
	kept := all(t)
	for _, f := range catalog.Fields() {
		spoil(f)
	}
	for message := range 10 {
		for f := range catalog.Of(message) {
			spoil(f)
		}
	}
	for _, f := range kept {
		again, _ := catalog.Find(f.Name)
		spoil(again)
	}
	want := told(t)
	for i, f := range all(t) {
		if !same(f, want[i]) || !same(kept[i], want[i]) {
			t.Errorf("%v, %v: wanted %v", f, kept[i], want[i])
		}
	}
	spoil(kept[0])
	if !same(kept[30], want[30]) {
		t.Error("two fields of one going through share texts")
	}
}

// P1: whatever name and number comes, there is an end, and what is found has
// that name.
func FuzzEnds(f *testing.F) {
	f.Add("mcc", 1)
	f.Add("PRes", 9)
	f.Add("", 0)
	f.Add("\xff", math.MinInt)
	f.Fuzz(func(t *testing.T, name string, n int) {
		if found, ok := catalog.Find(name); ok && found.Name != name || !ok && found.Name != "" {
			t.Errorf("Find(%q) = %v, %v", name, found, ok)
		}
		if got := catalog.Message(name); got != 0 && catalog.Messages()[got] != name {
			t.Errorf("Message(%q) = %d", name, got)
		}
		if there := len(places(catalog.Of(n))) > 0; there != (1 <= n && n <= 9) || there != (catalog.Bytes(n) > 0) {
			t.Errorf("message %d: %v, %d", n, there, catalog.Bytes(n))
		}
	})
}
