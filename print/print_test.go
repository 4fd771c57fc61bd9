package print_test

import (
	"bytes"
	stdjson "encoding/json"
	"maps"
	"math"
	"math/rand/v2"
	"slices"
	"strconv"
	"strings"
	"testing"

	"cashier/api"
	"cashier/json"
	"cashier/print"
)

// parsed gives the row of a text that has one.
func parsed(t *testing.T, s string) []json.Node {
	t.Helper()
	row, err := json.Parse(s)
	if err != api.OK {
		t.Fatalf("Parse(%q): %v", s, err)
	}
	return row
}

// pieces gives what Pieces goes through.
func pieces(l []json.Node) []string { return slices.Collect(print.Pieces(l)) }

// P8.1: each byte between quotes.
func TestQuoteBytes(t *testing.T) {
	short := map[int]string{8: `\b`, 9: `\t`, 10: `\n`, 12: `\f`, 13: `\r`, '"': `\"`, '\\': `\\`}
	for b := range 256 {
		want := string([]byte{byte(b)})
		switch {
		case short[b] != "":
			want = short[b]
		case b < 32:
			want = `\u00` + strconv.FormatInt(int64(0x100+b), 16)[1:]
		}
		if got := print.Quote(string([]byte{byte(b)})); got != `"`+want+`"` {
			t.Errorf("Quote of the byte %d is %s, wanted %s", b, got, want)
		}
		if got := print.Quote(string([]byte{'x', byte(b), byte(b), 'y'})); got != `"x`+want+want+`y"` {
			t.Errorf("Quote of the byte %d among others is %s", b, got)
		}
	}
}

// P8.1: texts between quotes.
func TestQuote(t *testing.T) {
	for _, c := range []struct{ s, want string }{
		{"", `""`},
		{"a b/c'", `"a b/c'"`},
		{"\"\\\x01\xc3\xa9", "\"\\\"\\\\\\u0001\xc3\xa9\""},
		{"\x00\x0b\x1f\x7f", "\"\\u0000\\u000b\\u001f\x7f\""},
		{`\n`, `"\\n"`},
		{"\u2028\U0001f600\ufffd<>&", "\"\u2028\U0001f600\ufffd<>&\""},
		{"\xff\xed\xa0\x80\x80", "\"\xff\xed\xa0\x80\x80\""}, // whatever isn't valid
		{strings.Repeat("\"", 5000), `"` + strings.Repeat(`\"`, 5000) + `"`},
	} {
		if got := print.Quote(c.s); got != c.want {
			t.Errorf("Quote(%.40q) = %.40s, wanted %.40s", c.s, got, c.want)
		}
	}
}

// P8.1: a row's pieces, and its text.
func TestPieces(t *testing.T) {
	for _, c := range []struct {
		s    string
		want []string
	}{
		{" null ", []string{"null"}},
		{"false", []string{"false"}},
		{"true", []string{"true"}},
		{"-1.50E+0", []string{"-1.50E+0"}},
		{`"\u0061\/\u000a"`, []string{`"a/\n"`}},
		{"[ ]", []string{"[", "]"}},
		{"{ }", []string{"{", "}"}},
		{"[[], {}]", []string{"[", "[", "]", ",", "{", "}", "]"}},
		{"[[[1]], 2]", []string{"[", "[", "[", "1", "]", "]", ",", "2", "]"}},
		{`{"b" : 1, "a\"" : [true, {"" : "x"}], "c":{}}`, []string{
			"{", `"b":`, "1", ",", `"a\"":`, "[", "true", ",", "{", `"":`, `"x"`, "}", "]", ",", `"c":`, "{", "}", "}",
		}},
		{`[{"a":{"b":[]}},null]`, []string{"[", "{", `"a":`, "{", `"b":`, "[", "]", "}", "}", ",", "null", "]"}},
	} {
		row := parsed(t, c.s)
		if got := pieces(row); !slices.Equal(got, c.want) {
			t.Errorf("Pieces of %s: %q, wanted %q", c.s, got, c.want)
		}
		if got, err := print.Print(row); err != api.OK || got != strings.Join(c.want, "") {
			t.Errorf("Print of %s: %s, %v", c.s, got, err)
		}
	}
}

// P8.1: as often and as far as one likes; what is gone through is what is
// there then.
func TestPiecesLeft(t *testing.T) {
	row := parsed(t, `{"b":[1,2],"a":{}}`)
	all := []string{"{", `"b":`, "[", "1", ",", "2", "]", ",", `"a":`, "{", "}", "}"}
	seq := print.Pieces(row)
	for stop := 1; stop <= len(all)+1; stop++ {
		var got []string
		for piece := range seq {
			got = append(got, piece)
			if len(got) == stop {
				break
			}
		}
		if !slices.Equal(got, all[:min(stop, len(all))]) {
			t.Errorf("left behind %d: %q", stop, got)
		}
	}
	row[2].Text = "3"
	if got, want := strings.Join(slices.Collect(seq), ""), `{"b":[3,2],"a":{}}`; got != want {
		t.Errorf("gone through again: %s", got)
	}
}

// turned gives rows that may not be, and their errors.
func turned(t *testing.T) map[api.Errno][]json.Node {
	many := []json.Node{{Kind: json.Array, Parent: -1, End: 257}}
	for i := range 256 {
		many = append(many, json.Node{Kind: json.Null, End: i + 2})
	}
	deep := make([]json.Node, 9)
	for i := range deep {
		deep[i] = json.Node{Kind: json.Object, Parent: i - 1, End: 9}
	}
	twice := parsed(t, `{"a":1,"b":2}`)
	twice[2].Key = "a"
	bad := parsed(t, `{"a":1,"b":2}`)
	bad[1].Key = "\xff"
	return map[api.Errno][]json.Node{api.ErrMany: many, api.ErrDeep: deep, api.ErrTwice: twice, api.ErrUTF: bad, api.ErrForm: bad[1:]}
}

// P8.1, P8.2: rows that may not be.
func TestErrors(t *testing.T) {
	rows := turned(t)
	for want, row := range rows {
		if got, err := print.Print(row); err != want || got != "" {
			t.Errorf("Print: %q, %v, wanted %v", got, err, want)
		}
		if got, err := print.Sort(row); err != want || len(got) != 0 {
			t.Errorf("Sort: %v, %v, wanted %v", got, err, want)
		}
	}
	for _, row := range [][]json.Node{nil, {}, {{}}, {{Kind: json.Null, Parent: -1, End: 2}}} {
		if got, err := print.Print(row); err != api.ErrForm || got != "" {
			t.Errorf("Print(%v) = %q, %v", row, got, err)
		}
		if got, err := print.Sort(row); err != api.ErrForm || len(got) != 0 {
			t.Errorf("Sort(%v) = %v, %v", row, got, err)
		}
	}
}

// counted gives the text of an array of the numbers below n.
func counted(n int) string {
	var items []string
	for i := range n {
		items = append(items, strconv.Itoa(i))
	}
	return "[" + strings.Join(items, ",") + "]"
}

// P8.2: rows and what they are sorted.
func TestSort(t *testing.T) {
	for _, c := range []struct{ s, want string }{
		{"1", "1"},
		{"[]", "[]"},
		{"{}", "{}"},
		{`["b","a",3,1]`, `["b","a",3,1]`},
		{counted(200), counted(200)},
		{`{"b":1,"a":2}`, `{"a":2,"b":1}`},
		{`{"b":` + counted(200) + `,"a":1}`, `{"a":1,"b":` + counted(200) + `}`},
		{`{"b":{"d":1,"c":[{"f":1,"e":2},0]},"a":2}`, `{"a":2,"b":{"c":[{"e":2,"f":1},0],"d":1}}`},
		{`[{"b":1,"a":2},{"d":1,"c":2}]`, `[{"a":2,"b":1},{"c":2,"d":1}]`},
		{`{"a":1,"":2,"aa":3,"A":4,"B":5,"10":6,"9":7}`, `{"":2,"10":6,"9":7,"A":4,"B":5,"a":1,"aa":3}`},
		{`{"a\u0000":1,"a":2,"b":3,"\u0001":4}`, `{"\u0001":4,"a":2,"a\u0000":1,"b":3}`},
		// Byte by byte a pair is behind ffff, while its surrogates are ahead of it.
		{`{"\ud83d\ude00":1,"\uffff":2,"\u00e9":3,"z":4}`, "{\"z\":4,\"\u00e9\":3,\"\uffff\":2,\"\U0001f600\":1}"},
	} {
		row := parsed(t, c.s)
		got, err := print.Sort(row)
		if err != api.OK || !slices.Equal(got, parsed(t, c.want)) {
			t.Errorf("Sort of %s: %v, %v", c.s, got, err)
		}
		again, err := print.Sort(got)
		if err != api.OK || !slices.Equal(again, got) {
			t.Errorf("Sort of %s, again: %v, %v", c.s, again, err)
		}
	}
}

// What is handed in stays, and an answer is a memory of its own.
func TestOwnMemory(t *testing.T) {
	for _, s := range []string{`{"b":[1,{}],"a":"x"}`, `{"a":1,"b":2}`, "1"} {
		spare := json.Node{Kind: 9, Key: "spare"}
		want := parsed(t, s)
		room := append(slices.Clone(want), spare)
		row := room[:len(want)]
		one, _ := print.Sort(row)
		other, _ := print.Sort(row)
		kept := slices.Clone(other)
		print.Print(row)
		pieces(row)
		if !slices.Equal(row, want) || room[len(want)] != spare {
			t.Errorf("%s was turned to %v", s, room)
		}
		clear(one[:cap(one)])
		if !slices.Equal(row, want) || room[len(want)] != spare || !slices.Equal(other, kept) {
			t.Errorf("%s: what is done to an answer is done to %v, %v", s, room, other)
		}
	}
}

// P8.2: texts in the one way.
func TestCanon(t *testing.T) {
	for _, c := range []struct{ s, want string }{
		{`{ "b" : 1, "a" : 2 }`, `{"a":2,"b":1}`},
		{"[]", "[]"},
		{" \t\r\n1.0e5\n", "1.0e5"},
		{`{ "b" : [ 1 , true ] , "a" : "x\/\n" }`, `{"a":"x/\n","b":[1,true]}`},
		{`"\u0022\u005c\u0008\u0009\u000A\u000c\u000D\u000B\u001f\u007f"`, "\"\\\"\\\\\\b\\t\\n\\f\\r\\u000b\\u001f\x7f\""},
		{`["\u00e9","\ud83d\ude00","\u2028"]`, "[\"\u00e9\",\"\U0001f600\",\"\u2028\"]"},
		{`"` + strings.Repeat("a", 4094) + `"`, `"` + strings.Repeat("a", 4094) + `"`},
	} {
		if got, err := print.Canon(c.s); err != api.OK || got != c.want {
			t.Errorf("Canon(%.40s) = %.40s, %v, wanted %.40s", c.s, got, err, c.want)
		}
	}
}

// P8.2: layer 7's errors.
func TestCanonErrors(t *testing.T) {
	for _, c := range []struct {
		s    string
		want api.Errno
	}{
		{strings.Repeat(" ", 4096) + "1", api.ErrLong},
		{`"` + strings.Repeat("\xff", 4096) + `"`, api.ErrLong},
		{"[\xff", api.ErrUTF},
		{"", api.ErrForm},
		{"{", api.ErrForm},
		{`"\ud800"`, api.ErrUTF},
		{"[[[[[[[[[]]]]]]]]]", api.ErrDeep},
		{"[" + strings.Repeat("1,", 255) + "1]", api.ErrMany},
		{`{"a":1,"\u0061":2}`, api.ErrTwice},
	} {
		if got, err := print.Canon(c.s); err != c.want || got != "" {
			t.Errorf("Canon(%.40q) = %.40q, %v, wanted %v", c.s, got, err, c.want)
		}
	}
}

// plain gives the text that the library makes of one, its members by rising
// names.
func plain(t *testing.T, s string) string {
	t.Helper()
	d := stdjson.NewDecoder(strings.NewReader(s))
	d.UseNumber()
	var value any
	if err := d.Decode(&value); err != nil {
		t.Fatalf("%q: %v", s, err)
	}
	var out bytes.Buffer
	e := stdjson.NewEncoder(&out)
	e.SetEscapeHTML(false)
	if err := e.Encode(value); err != nil {
		t.Fatalf("%q: %v", s, err)
	}
	text := strings.TrimSuffix(out.String(), "\n")
	// The library writes these two in a longer way than it must.
	return strings.NewReplacer(`\\`, `\\`, `\u2028`, "\u2028", `\u2029`, "\u2029").Replace(text)
}

// grown gives some value of the library, so deep at most.
func grown(r *rand.Rand, deep int) any {
	texts := []string{"", "a", "b", "\x00", "\n\t", "\"\\/", "é", "\u20ac", "\U0001f600", "\u2028", "\x7f", "\uffff", "u2028"}
	some := func() string { return texts[r.IntN(len(texts))] + texts[r.IntN(len(texts))] }
	kinds := 7
	if deep == 0 {
		kinds = 5
	}
	switch r.IntN(kinds) {
	case 0:
		return nil
	case 1, 2:
		return r.IntN(2) == 0
	case 3:
		return stdjson.Number([]string{"0", "-1", "12.50", "1E+5", "-0.0e-10"}[r.IntN(5)])
	case 4:
		return some()
	case 5:
		l := []any{}
		for range r.IntN(4) {
			l = append(l, grown(r, deep-1))
		}
		return l
	}
	m := map[string]any{}
	for range r.IntN(5) {
		m[some()] = grown(r, deep-1)
	}
	return m
}

// written gives the value's text with some blanks, its members in some order,
// its strings in some way.
func written(r *rand.Rand, value any) string {
	blank := func() string { return strings.Repeat(" \t\n\r"[r.IntN(4):][:1], r.IntN(2)) }
	quote := func(s string) string {
		out := `"`
		for _, point := range s {
			switch {
			case r.IntN(2) == 0 && point <= 0xffff:
				out += `\u` + strconv.FormatInt(0x10000+int64(point), 16)[1:]
			case point < ' ' || point == '"' || point == '\\':
				q := print.Quote(string(point))
				out += q[1 : len(q)-1]
			default:
				out += string(point)
			}
		}
		return out + `"`
	}
	var parts []string
	ends := "[]"
	switch x := value.(type) {
	case []any:
		for _, inner := range x {
			parts = append(parts, written(r, inner))
		}
	case map[string]any:
		ends = "{}"
		for _, key := range slices.Sorted(maps.Keys(x)) {
			parts = append(parts, blank()+quote(key)+blank()+":"+written(r, x[key]))
		}
		r.Shuffle(len(parts), func(i, k int) { parts[i], parts[k] = parts[k], parts[i] })
	case string:
		return blank() + quote(x) + blank()
	default:
		text, _ := stdjson.Marshal(x)
		return blank() + string(text) + blank()
	}
	return blank() + ends[:1] + blank() + strings.Join(parts, ",") + blank() + ends[1:] + blank()
}

// P8.3: what is printed is parsed as it was; the one way hangs on no blanks,
// no order, no way of escaping.
func TestOneWay(t *testing.T) {
	r := rand.New(rand.NewPCG(8, 8))
	told := 0
	for range 20000 {
		value := grown(r, r.IntN(8))
		s := written(r, value)
		row, err := json.Parse(s)
		if err != api.OK {
			continue // too much of something
		}
		told++
		text, err := print.Print(row)
		if err != api.OK || !slices.Equal(parsed(t, text), row) {
			t.Fatalf("%q is printed as %q, %v", s, text, err)
		}
		want := plain(t, s)
		for _, way := range []string{s, text, written(r, value), written(r, value)} {
			if len(way) > 4096 {
				continue
			}
			got, err := print.Canon(way)
			if err != api.OK || got != want {
				t.Fatalf("Canon(%q) = %q, %v, wanted %q", way, got, err, want)
			}
		}
		sorted, err := print.Sort(row)
		if err != api.OK || !slices.Equal(sorted, parsed(t, want)) {
			t.Fatalf("Sort of %q: %v, %v", s, sorted, err)
		}
	}
	if told < 15000 {
		t.Errorf("just %d texts were printed", told)
	}
}

// P8.1, P8.3: a row of whatever length.
func TestLong(t *testing.T) {
	row := []json.Node{
		{Kind: json.Object, Parent: -1, End: 3},
		{Kind: json.String, Key: strings.Repeat("k", 9000), Text: strings.Repeat("\n", 9000), End: 2},
		{Kind: json.Number, Key: "a", Text: strings.Repeat("7", 9000), End: 3},
	}
	long := func(s string) string { return strings.Repeat(s, 9000) }
	want := `{"` + long("k") + `":"` + long(`\n`) + `","a":` + long("7") + `}`
	if got, err := print.Print(row); err != api.OK || got != want {
		t.Errorf("%d bytes, %v", len(got), err)
	}
	if got, err := print.Sort(row); err != api.OK || got[1].Key != "a" || got[2].Text != long("\n") {
		t.Errorf("%d nodes, %v", len(got), err)
	}
}

// with gives the row with another node at one of its places.
func with(l []json.Node, at uint, n json.Node) []json.Node {
	l = slices.Clone(l)
	if len(l) > 0 {
		l[at%uint(len(l))] = n
	}
	return l
}

// P1: every call ends and none panics, whatever bytes and rows come.
func FuzzEnds(f *testing.F) {
	f.Add("", uint(0), 0, 0, 0, "", "")
	f.Add(`{"b":[1,-2.5e3,"\ud83d\ude00",{}],"a":null}`, uint(1), json.Object, 0, 6, "b", "")
	f.Add(`{"b":[1],"a":{"c":2}}`, uint(3), json.Array, math.MaxInt, math.MaxInt, "b", "1")
	f.Add(`[{"a":1},{"a":{}}]`, uint(1), json.Object, 1, 1, "", "")
	f.Add(`[[[]]]`, uint(2), json.Array, 0, math.MinInt, "", "\xff")
	f.Add("\"\\", uint(math.MaxUint), 9, -1, 1, "\xff", "\x00")
	f.Add("\x00\x1f\"\xff", uint(0), json.String, math.MinInt, 1, "", "a")
	f.Fuzz(func(t *testing.T, s string, at uint, kind, parent, end int, key, text string) {
		if got, want := print.Quote(s), len(s)+2; len(got) < want || got[:1] != `"` || got[len(got)-1:] != `"` {
			t.Errorf("Quote(%q) = %q", s, got)
		}
		row, err := json.Parse(s)
		canon, wrong := print.Canon(s)
		if wrong != err || len(canon) > len(s) || (canon != "") != (err == api.OK) {
			t.Errorf("Canon(%q) = %q, %v, wanted %v", s, canon, wrong, err)
		}
		if err == api.OK && canon != plain(t, s) {
			t.Errorf("Canon(%q) = %q, wanted %q", s, canon, plain(t, s))
		}
		n := json.Node{Kind: kind, Key: key, Text: text, Parent: parent, End: end}
		for _, l := range [][]json.Node{row, with(row, at, n), {n}} {
			text, err := print.Print(l)
			_, wrong := print.Sort(l)
			if err != json.Check(l) || wrong != err || strings.Join(pieces(l), "") != text {
				t.Errorf("Print(%v) = %q, %v, Check %v", l, text, err, json.Check(l))
			}
			if err == api.OK && len(text) <= 4096 && !slices.Equal(parsed(t, text), l) {
				t.Errorf("%v is printed as %q", l, text)
			}
		}
	})
}
