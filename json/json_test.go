package json_test

import (
	"bytes"
	stdjson "encoding/json"
	"io"
	"math"
	"math/rand/v2"
	"regexp"
	"slices"
	"strconv"
	"strings"
	"testing"
	"unicode/utf8"

	"cashier/api"
	"cashier/json"
)

// nested gives the text of so many arrays in one another.
func nested(deep int) string {
	return strings.Repeat("[", deep) + strings.Repeat("]", deep)
}

// listed gives the text of an array of so many items.
func listed(items int) string {
	return "[" + strings.TrimSuffix(strings.Repeat("1,", items), ",") + "]"
}

// P7.1: texts and their rows.
func TestRows(t *testing.T) {
	for _, c := range []struct {
		s    string
		want []json.Node
	}{
		{`null`, []json.Node{{json.Null, "", "", -1, 1}}},
		{`false`, []json.Node{{json.False, "", "", -1, 1}}},
		{`true`, []json.Node{{json.True, "", "", -1, 1}}},
		{`-12.50E+03`, []json.Node{{json.Number, "", "-12.50E+03", -1, 1}}},
		{`"a\u0062"`, []json.Node{{json.String, "", "ab", -1, 1}}},
		{`""`, []json.Node{{json.String, "", "", -1, 1}}},
		{`[]`, []json.Node{{json.Array, "", "", -1, 1}}},
		{`{}`, []json.Node{{json.Object, "", "", -1, 1}}},
		{`[1,{"a":null}]`, []json.Node{
			{json.Array, "", "", -1, 4},
			{json.Number, "", "1", 0, 2},
			{json.Object, "", "", 0, 4},
			{json.Null, "a", "", 2, 4},
		}},
		{` { "" : [ [ ] , { } ] , "b\n" : "" } `, []json.Node{
			{json.Object, "", "", -1, 5},
			{json.Array, "", "", 0, 4},
			{json.Array, "", "", 1, 3},
			{json.Object, "", "", 1, 4},
			{json.String, "b\n", "", 0, 5},
		}},
		{`[[[]],[[1]],2]`, []json.Node{
			{json.Array, "", "", -1, 7},
			{json.Array, "", "", 0, 3},
			{json.Array, "", "", 1, 3},
			{json.Array, "", "", 0, 6},
			{json.Array, "", "", 3, 6},
			{json.Number, "", "1", 4, 6},
			{json.Number, "", "2", 0, 7},
		}},
	} {
		if got, err := json.Parse(c.s); err != api.OK || !slices.Equal(got, c.want) {
			t.Errorf("Parse(%s) = %v, %v, wanted %v", c.s, got, err, c.want)
		}
	}
}

// P7.1: the kinds' numbers.
func TestKinds(t *testing.T) {
	got := []int{json.Null, json.False, json.True, json.Number, json.String, json.Array, json.Object}
	if want := []int{1, 2, 3, 4, 5, 6, 7}; !slices.Equal(got, want) {
		t.Errorf("the kinds are %v", got)
	}
}

// P7.1: what a string means.
func TestMeant(t *testing.T) {
	for _, c := range []struct{ s, want string }{
		{`\"\\\/\b\f\n\r\t`, "\"\\/\b\f\n\r\t"},
		{`\u0000\u001f\u007f`, "\x00\x1f\x7f"},
		{`\u00e9\u00E9\uabcd\uABCD`, "\u00e9\u00e9\uabcd\uabcd"},
		{`\u20ac1`, "\u20ac1"},
		{`\u005cn`, `\n`},
		{`\\u0041`, `\u0041`},
		{`\ud800\udc00\udbff\udfff`, "\U00010000\U0010ffff"},
		{`\uD83D\uDe00`, "\U0001f600"},
		{`a\ud83d\ude00\ud83d\ude01z`, "a\U0001f600\U0001f601z"},
		{`\ud7ff\ue000\uffff\ufffd`, "\ud7ff\ue000\uffff\ufffd"},
		{"\u00e9\u2028\U0001f600\x7f\ufffd", "\u00e9\u2028\U0001f600\x7f\ufffd"},
		{`a/b`, "a/b"},
	} {
		got, err := json.Parse(`{"` + c.s + `":"` + c.s + `"}`)
		if err != api.OK || len(got) != 2 || got[1].Key != c.want || got[1].Text != c.want {
			t.Errorf("%s is read as %v, %v", c.s, got, err)
		}
	}
}

// P7.1: what is no JSON text.
func TestForm(t *testing.T) {
	for _, s := range []string{
		"", " ", "\n", "1 2", "1,", ",1", "[", "]", "{", "}", "[1", "[1,", "[1,]", "[,1]", "[,]", "[1 2]", "[1,,2]",
		"[1}", "{]", "[]]", "[] []", `{"a"}`, `{"a":}`, `{"a":1,}`, `{,"a":1}`, `{"a" 1}`, `{"a"::1}`, `{"a":1 "b":2}`,
		`{a:1}`, `{1:1}`, `{null:1}`, `{"a":1`, `{"a":1]`, `{"a":1,"b"}`, `["a":1]`, `[{"a":[}]`, `{"a":1}{`, `[1:2]`,
		"nul", "nulll", "Null", "TRUE", "truefalse", "tru e", "undefined", "NaN", "Infinity", "-Infinity",
		"01", "00", "-", "+1", "--1", "-01", "1.", ".1", "1.e1", "1e", "1E+", "1e-", "1e1.5", "0x1", "1_0", "1 e1", "- 1", "-a",
		`"`, `"a`, `a"`, `"a""`, `"a"b`, `'a'`, "\"\t\"", "\"\n\"", "\"\x00\"", "\"\x1f\"",
		`"\"`, `"\`, `"\a"`, `"\'"`, `"\0"`, `"\x41"`, `"\U0041"`, `"\u"`, `"\u1"`, `"\u12"`, `"\u123"`, `"\u123g"`, `"\u+123"`,
		`"\u 123"`, `"\u1_23"`, `"\u0x41"`, `"\u-001"`, `"\ud800\u12"`, `"\ud800\`, "\"\\\n\"",
		"\ufeff1", "1\ufeff", "\v1", "\f1", "1\x00", "\u00a01", "/**/1", "1//", "[1]#",
		strings.Repeat("[", 4096), strings.Repeat("[", 2048) + strings.Repeat("]", 2047), nested(9) + "]",
		strings.Repeat(`{"":`, 1024),
	} {
		if got, err := json.Parse(s); err != api.ErrForm || len(got) != 0 {
			t.Errorf("Parse(%q) = %v, %v", s, got, err)
		}
	}
}

// P7.1: surrogates that are lone, in texts and in names.
func TestLone(t *testing.T) {
	for _, s := range []string{
		`\ud800`, `\udbff`, `\udc00`, `\udfff`, `\uD800a`, `\ud800\n`, `\ud800\\udc00`, `\ud800\u0041`,
		`\ud800\ud800`, `\udc00\ud800`, `\udc00\udc00`, `\ud800\ud83d\ude00`, `\ud83d\ude00\ude00`, `\ud83d\ude00\ud83d`,
		"\\ud83d\U0001f600", `\ud800\u0000`, `\ud800\ue000`, `\ud800\udbff`,
	} {
		for _, whole := range []string{`"` + s + `"`, `{"` + s + `":1}`, `[{"a":["x` + s + `"]}]`} {
			if got, err := json.Parse(whole); err != api.ErrUTF || len(got) != 0 {
				t.Errorf("Parse(%s) = %v, %v", whole, got, err)
			}
		}
	}
}

// P7.1: the limits, and one more.
func TestLimits(t *testing.T) {
	for _, c := range []struct {
		what, s string
		want    api.Errno
	}{
		{"4096 bytes", `"` + strings.Repeat("a", 4094) + `"`, api.OK},
		{"4096 bytes, most of them blanks", strings.Repeat(" ", 4095) + "1", api.OK},
		{"4097 bytes", `"` + strings.Repeat("a", 4095) + `"`, api.ErrLong},
		{"4097 bytes, most of them blanks", strings.Repeat(" ", 4096) + "1", api.ErrLong},
		{"4096 bytes, fewer code points", `"` + strings.Repeat("é", 2047) + `"`, api.OK},
		{"4098 bytes, fewer code points", `"` + strings.Repeat("é", 2048) + `"`, api.ErrLong},
		{"eight deep", nested(8), api.OK},
		{"nine deep", nested(9), api.ErrDeep},
		{"2048 deep", nested(2048), api.ErrDeep},
		{"eight objects deep", strings.Repeat(`{"a":`, 7) + "{}" + strings.Repeat("}", 7), api.OK},
		{"nine objects deep", strings.Repeat(`{"a":`, 8) + "{}" + strings.Repeat("}", 8), api.ErrDeep},
		{"eight deep with a value", strings.Repeat("[", 8) + "1" + strings.Repeat("]", 8), api.OK},
		{"eight deep, twice", "[" + nested(7) + "," + nested(7) + "]", api.OK},
		{"nine deep, behind others", "[1," + nested(7) + "," + nested(8) + "]", api.ErrDeep},
		{"256 nodes", listed(255), api.OK},
		{"257 nodes", listed(256), api.ErrMany},
		{"a name twice", `{"a":1,"a":1}`, api.ErrTwice},
		{"a name twice, others between", `{"a":1,"b":{"a":1},"c":[1],"a":1}`, api.ErrTwice},
		{"no name twice", `{"":1,"":1}`, api.ErrTwice},
		{"a name twice, within", `[{"x":{"a":1,"\u0061":1}}]`, api.ErrTwice},
		{"a pair's name twice", "{\"\\ud83d\\ude00\":1,\"\U0001f600\":1}", api.ErrTwice},
		{"one name in two objects", `{"a":{"a":{"a":1}},"b":{"a":1}}`, api.OK},
		{"names that look alike", `{"a":1,"A":1,"a ":1,"":1,"` + "\u00e9" + `":1,"e\u0301":1}`, api.OK},
		{"one text twice", `["a","a",{"b":"a"}]`, api.OK},
	} {
		got, err := json.Parse(c.s)
		if err != c.want || (len(got) > 0) != (err == api.OK) {
			t.Errorf("%s: %v, wanted %v", c.what, err, c.want)
		}
	}
}

// P7.1: which error comes first, where two hold.
func TestFirstError(t *testing.T) {
	const lone = `"\ud800"`
	const twice = `{"a":1,"a":2}`
	many := listed(256)
	for _, c := range []struct {
		what, s string
		want    api.Errno
	}{
		{"long, not valid", strings.Repeat("\xff", 4097), api.ErrLong},
		{"long, no JSON", strings.Repeat("x", 4097), api.ErrLong},
		{"long, deep", strings.Repeat(" ", 4096) + nested(9), api.ErrLong},
		{"not valid, no JSON", "x\xff", api.ErrUTF},
		{"not valid, no JSON, behind the end", "1\xff", api.ErrUTF},
		{"not valid, deep", nested(9) + "\x80", api.ErrUTF},
		{"no JSON, lone", "[" + lone, api.ErrForm},
		{"no JSON behind it, lone", lone + "1", api.ErrForm},
		{"no JSON within it, lone", `"\ud800\x"`, api.ErrForm},
		{"no JSON within it, lone and not ended", `"\ud800\u12"`, api.ErrForm},
		{"no JSON, deep", nested(9) + "x", api.ErrForm},
		{"no JSON, many", many + "x", api.ErrForm},
		{"no JSON, twice", twice + "x", api.ErrForm},
		{"lone, deep", "[" + nested(9) + "," + lone + "]", api.ErrUTF},
		{"lone, many", "[" + many + "," + lone + "]", api.ErrUTF},
		{"lone, twice", `{"a":1,"a":` + lone + `}`, api.ErrUTF},
		{"lone names, twice", `{"\ud800":1,"\ud800":1}`, api.ErrUTF},
		{"deep, many", "[" + many + "," + nested(8) + "]", api.ErrDeep},
		{"deep, twice", "[" + twice + "," + nested(8) + "]", api.ErrDeep},
		{"many, twice", "[" + twice + "," + many + "]", api.ErrMany},
	} {
		if got, err := json.Parse(c.s); err != c.want || len(got) != 0 {
			t.Errorf("%s: %v, %v, wanted %v", c.what, got, err, c.want)
		}
	}
}

// rowOf gives the row that the library's tokens of a text make.
func rowOf(t *testing.T, s string) []json.Node {
	t.Helper()
	d := stdjson.NewDecoder(strings.NewReader(s))
	d.UseNumber()
	var row []json.Node
	open, key, keyed := -1, "", false
	for {
		token, err := d.Token()
		if err == io.EOF {
			return row
		}
		if err != nil {
			t.Fatalf("%q: %v", s, err)
		}
		if token == stdjson.Delim(']') || token == stdjson.Delim('}') {
			row[open].End = len(row)
			open = row[open].Parent
			continue
		}
		if text, ok := token.(string); ok && open >= 0 && row[open].Kind == json.Object && !keyed {
			key, keyed = text, true
			continue
		}
		n := json.Node{Key: key, Parent: open, End: len(row) + 1}
		key, keyed = "", false
		switch x := token.(type) {
		case nil:
			n.Kind = json.Null
		case bool:
			n.Kind = json.False
			if x {
				n.Kind = json.True
			}
		case stdjson.Number:
			n.Kind, n.Text = json.Number, x.String()
		case string:
			n.Kind, n.Text = json.String, x
		case stdjson.Delim:
			n.Kind = json.Array
			if x == '{' {
				n.Kind = json.Object
			}
			open = len(row)
		}
		row = append(row, n)
	}
}

// deepest tells by a row's Parents how deep its arrays and objects stand.
func deepest(l []json.Node) int {
	most := 0
	for i := range l {
		deep := 0
		for at := i; at >= 0; at = l[at].Parent {
			if l[at].Kind >= json.Array {
				deep++
			}
		}
		most = max(most, deep)
	}
	return most
}

// twice tells whether two members of one object of the row have one name.
func twice(l []json.Node) bool {
	for i, a := range l {
		for _, b := range l[:i] {
			if a.Parent >= 0 && a.Parent == b.Parent && l[a.Parent].Kind == json.Object && a.Key == b.Key {
				return true
			}
		}
	}
	return false
}

// first gives the first error that holds of a row, that of its form left out.
func first(l []json.Node) api.Errno {
	switch {
	case slices.ContainsFunc(l, func(n json.Node) bool { return !utf8.ValidString(n.Key) || !utf8.ValidString(n.Text) }):
		return api.ErrUTF
	case deepest(l) > 8:
		return api.ErrDeep
	case len(l) > 256:
		return api.ErrMany
	case twice(l):
		return api.ErrTwice
	}
	return api.OK
}

// agrees tells whether a text is read as the library reads it; of one without
// lone surrogates.
func agrees(t *testing.T, s string) {
	t.Helper()
	got, err := json.Parse(s)
	var row []json.Node
	var want api.Errno
	switch {
	case len(s) > 4096:
		want = api.ErrLong
	case !utf8.ValidString(s):
		want = api.ErrUTF
	case !stdjson.Valid([]byte(s)):
		want = api.ErrForm
	default:
		row = rowOf(t, s)
		want = first(row)
	}
	if want != api.OK {
		row = nil
	}
	if err != want || !slices.Equal(got, row) {
		t.Errorf("Parse(%q) = %v, %v, wanted %v, %v", s, got, err, row, want)
	}
	if err == api.OK && (json.Check(got) != api.OK || json.Depth(got) != deepest(got)) {
		t.Errorf("%q: Check %v, Depth %d", s, json.Check(got), json.Depth(got))
	}
}

// P7.1: all texts of few signs, and all of few words.
func TestTextsOfFew(t *testing.T) {
	var walk func(s string, pieces []string, left int)
	walk = func(s string, pieces []string, left int) {
		agrees(t, s)
		for _, piece := range pieces {
			if left > 0 {
				walk(s+piece, pieces, left-1)
			}
		}
	}
	walk("", strings.Split(`[ ] { } , : 1 "`, " "), 6)
	walk("", strings.Split("- 0 1 . e E + x", " "), 6)
	walk("", []string{"[", "]", "{", "}", ",", `"a":`, `"b":`, "null", " "}, 5)
	walk("", []string{`{"a":`, `{"b":[`, "}", "]", ",", `"a":`, "true"}, 6)
}

// P7.1, P7.2: all texts of few signs of numbers.
func TestNumeral(t *testing.T) {
	grammar := regexp.MustCompile(`\A-?(0|[1-9][0-9]*)(\.[0-9]+)?([eE][+-]?[0-9]+)?\z`)
	signs := "-+01.eE9"
	var walk func(s string)
	walk = func(s string) {
		want := grammar.MatchString(s)
		if got := json.Numeral(s); got != want {
			t.Errorf("Numeral(%q) = %v", s, got)
		}
		row, err := json.Parse(s)
		if (err == api.OK) != want || want && row[0] != (json.Node{Kind: json.Number, Text: s, Parent: -1, End: 1}) {
			t.Errorf("Parse(%q) = %v, %v", s, row, err)
		}
		for i := range len(signs) {
			if len(s) < 6 {
				walk(s + signs[i:i+1])
			}
		}
	}
	walk("")
	for s, want := range map[string]bool{
		" 1": false, "1 ": false, "1\n": false, "1a": false, "a": false, "\u0661": false, "1\x00": false, "1,": false, "/": false, ":": false,
		"-0.0e-0": true, "1234567890": true, "1" + strings.Repeat("0", 5000): true,
		"0." + strings.Repeat("7", 5000) + "E+" + strings.Repeat("0", 5000): true,
	} {
		if got := json.Numeral(s); got != want {
			t.Errorf("Numeral(%.20q) = %v", s, got)
		}
	}
}

// P7.2: how deep a row is.
func TestDepth(t *testing.T) {
	for s, want := range map[string]int{
		"1": 0, `"a"`: 0, "null": 0, "[]": 1, "{}": 1, "[1]": 1, "[[]]": 2, `{"a":[]}`: 2, "[[],[]]": 2, "[[],[[]],[]]": 3,
		`[1,{"a":{"b":[2]}},3]`: 4, "[" + nested(7) + ",1]": 8,
	} {
		row, err := json.Parse(s)
		if got := json.Depth(row); err != api.OK || got != want {
			t.Errorf("Depth of %s: %d, %v", s, got, err)
		}
	}
	if got := json.Depth(nil); got != 0 {
		t.Errorf("Depth of nothing: %d", got)
	}
}

// deep gives the row of so many arrays in one another.
func deep(n int) []json.Node {
	row := make([]json.Node, n)
	for i := range row {
		row[i] = json.Node{Kind: json.Array, Parent: i - 1, End: n}
	}
	return row
}

// wide gives the row of an object with so many members; with(i) is the name of
// the one at i.
func wide(n int, with func(i int) string) []json.Node {
	row := []json.Node{{Kind: json.Object, Parent: -1, End: n + 1}}
	for i := range n {
		row = append(row, json.Node{Kind: json.Null, Key: with(i), End: i + 2})
	}
	return row
}

// P7.2: rows that may be, others, and which error comes first.
func TestCheck(t *testing.T) {
	const kind = json.Array
	lists := func(items ...json.Node) []json.Node {
		row := []json.Node{{Kind: kind, Parent: -1, End: len(items) + 1}}
		for i, n := range items {
			n.End = i + 2
			row = append(row, n)
		}
		return row
	}
	same := func(int) string { return "a" }
	bad := func(int) string { return "\xff" }
	for _, c := range []struct {
		what string
		row  []json.Node
		want api.Errno
	}{
		{"nothing", nil, api.ErrForm},
		{"no nodes", []json.Node{}, api.ErrForm},
		{"a null", []json.Node{{json.Null, "", "", -1, 1}}, api.OK},
		{"the zero node", []json.Node{{}}, api.ErrForm},
		{"kind 8", []json.Node{{8, "", "", -1, 1}}, api.ErrForm},
		{"kind -1", []json.Node{{-1, "", "", -1, 1}}, api.ErrForm},
		{"two values", []json.Node{{json.Null, "", "", -1, 1}, {json.Null, "", "", -1, 2}}, api.ErrForm},
		{"a number", lists(json.Node{Kind: json.Number, Text: "-0.5e1"}), api.OK},
		{"a number without a text", lists(json.Node{Kind: json.Number}), api.ErrForm},
		{"a number that is none", lists(json.Node{Kind: json.Number, Text: "01"}), api.ErrForm},
		{"a number with a blank", lists(json.Node{Kind: json.Number, Text: "1 "}), api.ErrForm},
		{"a long number", lists(json.Node{Kind: json.Number, Text: strings.Repeat("9", 5000)}), api.OK},
		{"a text", lists(json.Node{Kind: json.String, Text: "\x00\"\\\u20ac\U0001f600\ufffd"}), api.OK},
		{"a long text", lists(json.Node{Kind: json.String, Text: strings.Repeat("a", 5000)}), api.OK},
		{"a long name", wide(1, func(int) string { return strings.Repeat("a", 5000) }), api.OK},
		{"a null with a text", lists(json.Node{Kind: json.Null, Text: "null"}), api.ErrForm},
		{"a false with a text", lists(json.Node{Kind: json.False, Text: "x"}), api.ErrForm},
		{"a true with a text", lists(json.Node{Kind: json.True, Text: "x"}), api.ErrForm},
		{"an array with a text", lists(json.Node{Kind: json.Array, Text: "x"}), api.ErrForm},
		{"an object with a text", lists(json.Node{Kind: json.Object, Text: "x"}), api.ErrForm},
		{"an item with a name", lists(json.Node{Kind: json.Null, Key: "a"}), api.ErrForm},
		{"an item within a null", []json.Node{{json.Null, "", "", -1, 2}, {json.Null, "", "", 0, 2}}, api.ErrForm},
		{"an item within a number", []json.Node{{json.Number, "", "1", -1, 2}, {json.Null, "", "", 0, 2}}, api.ErrForm},
		{"an item within a text", []json.Node{{json.String, "", "", -1, 2}, {json.Null, "", "", 0, 2}}, api.ErrForm},
		{"a member within a true", []json.Node{{json.True, "", "", -1, 2}, {json.Null, "a", "", 0, 2}}, api.ErrForm},
		{"a first one with a name", []json.Node{{json.Null, "a", "", -1, 1}}, api.ErrForm},
		{"a member without a name", wide(1, func(int) string { return "" }), api.OK},
		{"a text that isn't valid", lists(json.Node{Kind: json.String, Text: "a\xff"}), api.ErrUTF},
		{"a text that is a surrogate", lists(json.Node{Kind: json.String, Text: "\xed\xa0\x80"}), api.ErrUTF},
		{"a name that isn't valid", wide(1, bad), api.ErrUTF},
		{"eight deep", deep(8), api.OK},
		{"nine deep", deep(9), api.ErrDeep},
		{"70000 deep", deep(70000), api.ErrDeep},
		{"256 nodes", wide(255, strconv.Itoa), api.OK},
		{"257 nodes", wide(256, strconv.Itoa), api.ErrMany},
		{"300000 nodes", wide(300000, strconv.Itoa), api.ErrMany},
		{"a name twice", wide(2, same), api.ErrTwice},
		{"no name twice", wide(2, func(int) string { return "" }), api.ErrTwice},
		{"names unlike", wide(3, strconv.Itoa), api.OK},
		{"no form, not valid", lists(json.Node{Kind: json.String, Text: "\xff"}, json.Node{}), api.ErrForm},
		{"no form, as an item's name isn't valid", lists(json.Node{Kind: json.Null, Key: "\xff"}), api.ErrForm},
		{"no form, as a number isn't valid", lists(json.Node{Kind: json.Number, Text: "\xff"}), api.ErrForm},
		{"no form, deep", append(deep(9), json.Node{Kind: json.Null}), api.ErrForm},
		{"no form, many", append(wide(256, strconv.Itoa), json.Node{}), api.ErrForm},
		{"no form, twice", append(wide(2, same), json.Node{}), api.ErrForm},
		{"not valid, many", wide(256, func(i int) string { return strconv.Itoa(i) + "\x80" }), api.ErrUTF},
		{"not valid, twice", wide(2, bad), api.ErrUTF},
		{"many, twice", wide(256, same), api.ErrMany},
	} {
		if got := json.Check(c.row); got != c.want {
			t.Errorf("%s: %v, wanted %v", c.what, got, c.want)
		}
	}
}

// P7.2: with what is within it, deeper than eight.
func TestCheckDeepFirst(t *testing.T) {
	whole := func(inner ...json.Node) []json.Node {
		row := append(deep(8), json.Node{Kind: json.Object, Parent: 7})
		for _, n := range inner {
			n.Kind, n.Parent, n.End = json.Null, 8, len(row)+1
			row = append(row, n)
		}
		for i := range 9 {
			row[i].End = len(row)
		}
		return row
	}
	for _, c := range []struct {
		what string
		row  []json.Node
		want api.Errno
	}{
		{"not valid, deep", whole(json.Node{Key: "\xff"}), api.ErrUTF},
		{"deep, many", whole(wide(256, strconv.Itoa)[1:]...), api.ErrDeep},
		{"deep, twice", whole(json.Node{Key: "a"}, json.Node{Key: "a"}), api.ErrDeep},
	} {
		if got := json.Check(c.row); got != c.want {
			t.Errorf("%s: %v, wanted %v", c.what, got, c.want)
		}
	}
}

// tree is a value, written and laid without the package.
type tree struct {
	kind      int
	key, text string
	within    []tree
}

// lay lays the tree behind a row, within the value at parent.
func (v tree) lay(row []json.Node, parent int) []json.Node {
	at := len(row)
	row = append(row, json.Node{Kind: v.kind, Key: v.key, Text: v.text, Parent: parent})
	for _, inner := range v.within {
		row = inner.lay(row, at)
	}
	row[at].End = len(row)
	return row
}

// write gives the tree's text with what blank gives around its parts, and
// strings as quote gives them.
func (v tree) write(blank func() string, quote func(s string) string) string {
	switch v.kind {
	case json.Number:
		return blank() + v.text + blank()
	case json.String:
		return blank() + quote(v.text) + blank()
	case json.Array, json.Object:
		ends := map[int]string{json.Array: "[]", json.Object: "{}"}[v.kind]
		var parts []string
		for _, inner := range v.within {
			part := inner.write(blank, quote)
			if v.kind == json.Object {
				part = blank() + quote(inner.key) + blank() + ":" + part
			}
			parts = append(parts, part)
		}
		return blank() + ends[:1] + blank() + strings.Join(parts, ",") + blank() + ends[1:] + blank()
	}
	return blank() + map[int]string{json.Null: "null", json.False: "false", json.True: "true"}[v.kind] + blank()
}

// trees gives all trees of so many nodes, of four kinds and two names.
func trees(nodes int, keys []string) []tree {
	var out []tree
	for _, key := range keys {
		if nodes == 1 {
			out = append(out, tree{kind: json.Null, key: key}, tree{kind: json.String, key: key, text: "t"})
		}
		for _, l := range forests(nodes-1, []string{""}) {
			out = append(out, tree{kind: json.Array, key: key, within: l})
		}
		for _, l := range forests(nodes-1, []string{"", "k"}) {
			out = append(out, tree{kind: json.Object, key: key, within: l})
		}
	}
	return out
}

// forests gives all rows of trees with so many nodes in all.
func forests(nodes int, keys []string) [][]tree {
	if nodes == 0 {
		return [][]tree{nil}
	}
	var out [][]tree
	for n := 1; n <= nodes; n++ {
		for _, v := range trees(n, keys) {
			for _, l := range forests(nodes-n, keys) {
				out = append(out, append([]tree{v}, l...))
			}
		}
	}
	return out
}

// P7.2: of all rows of up to three nodes just those of values are of the form.
func TestCheckAll(t *testing.T) {
	known := map[[3]json.Node]bool{}
	for nodes := range 3 {
		for _, v := range trees(nodes+1, []string{""}) {
			known[[3]json.Node(append(v.lay(nil, -1), make([]json.Node, 2-nodes)...))] = true
		}
	}
	var nodes []json.Node
	for _, kind := range []int{json.Null, json.String, json.Array, json.Object} {
		for parent := -1; parent <= 2; parent++ {
			for end := 1; end <= 4; end++ {
				for _, key := range []string{"", "k"} {
					n := json.Node{Kind: kind, Key: key, Parent: parent, End: end}
					if kind == json.String {
						n.Text = "t"
					}
					nodes = append(nodes, n)
				}
			}
		}
	}
	met := 0
	check := func(row ...json.Node) {
		want := api.ErrForm
		if known[[3]json.Node(append(slices.Clone(row), make([]json.Node, 3-len(row))...))] {
			want = first(row)
			met++
		}
		if got := json.Check(row); got != want {
			t.Errorf("Check(%v) = %v, wanted %v", row, got, want)
		}
	}
	for _, a := range nodes {
		check(a)
		for _, b := range nodes {
			check(a, b)
			for _, c := range nodes {
				check(a, b, c)
			}
		}
	}
	if met != len(known) {
		t.Errorf("%d of %d rows were met", met, len(known))
	}
}

// P7.2: a row in which one number or text is another one.
func TestCheckTurned(t *testing.T) {
	whole, err := json.Parse(`{"a":[1,"x",[],{}],"b":{"c":[null,true],"d":false},"e":[[2]]}`)
	if err != api.OK || json.Check(whole) != api.OK {
		t.Fatalf("%v", err)
	}
	numbers := []int{math.MinInt, -2, -1, 0, 1, 2, 3, 4, 5, 6, 7, 8, 9, 10, 11, 12, 13, 14, 15, math.MaxInt}
	for i, n := range whole {
		for _, number := range numbers {
			for _, turned := range []json.Node{
				{n.Kind, n.Key, n.Text, number, n.End},
				{n.Kind, n.Key, n.Text, n.Parent, number},
			} {
				row := slices.Clone(whole)
				row[i] = turned
				if got := json.Check(row); (got == api.OK) != (turned == n) || got != api.OK && got != api.ErrForm {
					t.Errorf("node %d as %v: %v", i, turned, got)
				}
			}
		}
		row := slices.Clone(whole)
		row[i].Kind = 0
		if got := json.Check(row); got != api.ErrForm {
			t.Errorf("node %d without a kind: %v", i, got)
		}
		if got := json.Check(whole[:i]); got != api.ErrForm {
			t.Errorf("%d nodes: %v", i, got)
		}
		if i > 0 {
			if got := json.Check(whole[i:]); got != api.ErrForm {
				t.Errorf("from node %d on: %v", i, got)
			}
		}
	}
}

// grown gives some tree of at most so many nodes, which the budget tells, and
// so deep.
func grown(r *rand.Rand, budget *int, deep int) tree {
	*budget--
	kind := 1 + r.IntN(7)
	if deep == 0 {
		kind = 1 + r.IntN(5)
	}
	v := tree{kind: kind}
	texts := []string{"", "a", "\x00", "\n\t", "\"\\/", "é", "\u20ac", "\U0001f600", "\u2028", "\x7f", "d800", "\ufffd"}
	some := func() string { return texts[r.IntN(len(texts))] + texts[r.IntN(len(texts))] }
	switch kind {
	case json.Number:
		v.text = []string{"0", "-1", "12.50", "1e5", "-0.0E-10", strings.Repeat("9", 30)}[r.IntN(6)]
	case json.String:
		v.text = some()
	case json.Array, json.Object:
		names := map[string]bool{}
		for r.IntN(4) > 0 && *budget > 0 {
			inner := grown(r, budget, deep-1)
			if kind == json.Object {
				inner.key = some()
				if names[inner.key] {
					continue
				}
				names[inner.key] = true
			}
			v.within = append(v.within, inner)
		}
	}
	return v
}

// written gives a string in one of the ways that it may be written in.
func written(r *rand.Rand, s string) string {
	short := map[rune]string{'"': `\"`, '\\': `\\`, '/': `\/`, '\b': `\b`, '\f': `\f`, '\n': `\n`, '\r': `\r`, '\t': `\t`}
	unit := func(n rune) string {
		hex := strconv.FormatInt(0x10000+int64(n), 16)[1:]
		if r.IntN(2) == 0 {
			hex = strings.ToUpper(hex)
		}
		return `\u` + hex
	}
	out := `"`
	for _, point := range s {
		way := r.IntN(3)
		switch {
		case way == 0 && short[point] != "":
			out += short[point]
		case way == 1 && point >= ' ' && point != '"' && point != '\\':
			out += string(point)
		case point > 0xffff:
			out += unit(0xd800+(point-0x10000)>>10) + unit(0xdc00+(point-0x10000)&0x3ff)
		default:
			out += unit(point)
		}
	}
	return out + `"`
}

// P7.1, P7.2, P7.3: trees are read as they are, whatever blanks and ways of
// writing strings.
func TestTrees(t *testing.T) {
	r := rand.New(rand.NewPCG(7, 7))
	blank := func() string { return strings.Repeat([]string{" ", "\t", "\n", "\r", "\r\n"}[r.IntN(5)], r.IntN(3)) }
	none := func() string { return "" }
	quote := func(s string) string { return written(r, s) }
	read := 0
	for range 20000 {
		budget := 1 + r.IntN(60)
		v := grown(r, &budget, r.IntN(10))
		want := v.lay(nil, -1)
		for _, s := range []string{v.write(none, quote), v.write(blank, quote), v.write(blank, quote)} {
			if len(s) > 4096 {
				continue
			}
			read++
			got, err := json.Parse(s)
			if wanted := first(want); err != wanted || wanted == api.OK && !slices.Equal(got, want) {
				t.Fatalf("Parse(%s) = %v, %v, wanted %v", s, got, err, want)
			}
		}
		if got := json.Check(want); got != first(want) {
			t.Fatalf("Check(%v) = %v", want, got)
		}
		if got := json.Depth(want); got != deepest(want) {
			t.Fatalf("Depth(%v) = %v", want, got)
		}
	}
	if read < 50000 {
		t.Errorf("just %d texts were read", read)
	}
}

// P7.3: each blank in each place where one may stand; nowhere else, and none
// but the four.
func TestBlanks(t *testing.T) {
	parts := []string{"{", `"a b"`, ":", "[", "1", ",", "true", "]", ",", `"c"`, ":", "{", "}", "}"}
	plain, err := json.Parse(strings.Join(parts, ""))
	if err != api.OK {
		t.Fatal(err)
	}
	for _, blank := range []string{" ", "\t", "\n", "\r", "  ", "\r\n\t "} {
		for i := range len(parts) + 1 {
			s := strings.Join(parts[:i], "") + blank + strings.Join(parts[i:], "")
			if got, err := json.Parse(s); err != api.OK || !slices.Equal(got, plain) {
				t.Errorf("Parse(%q) = %v, %v", s, got, err)
			}
		}
		if s := blank + strings.Join(parts, blank) + blank; len(s) > 0 {
			if got, err := json.Parse(s); err != api.OK || !slices.Equal(got, plain) {
				t.Errorf("Parse(%q) = %v, %v", s, got, err)
			}
		}
	}
	for _, other := range []string{"\v", "\f", "\x00", "\x7f", "\u0085", "\u00a0", "\u2028", "\ufeff"} {
		for i := range len(parts) + 1 {
			s := strings.Join(parts[:i], "") + other + strings.Join(parts[i:], "")
			if got, err := json.Parse(s); err != api.ErrForm || len(got) != 0 {
				t.Errorf("Parse(%q) = %v, %v", s, got, err)
			}
		}
	}
	if got, err := json.Parse(`" a "`); err != api.OK || got[0].Text != " a " {
		t.Errorf("blanks within a string: %v, %v", got, err)
	}
	for _, s := range []string{"t rue", "1 .5", "- 1", `"\ u0041"`} {
		if got, err := json.Parse(s); err != api.ErrForm {
			t.Errorf("Parse(%q) = %v, %v", s, got, err)
		}
	}
}

// told is what Strings tells of a line.
type told struct {
	text string
	err  api.Errno
}

// lines gives what Strings goes through.
func lines(s string) []told {
	var out []told
	for text, err := range json.Strings(s) {
		out = append(out, told{text, err})
	}
	return out
}

// P7.2: what lines are.
func TestStrings(t *testing.T) {
	long := strings.Repeat("a", 4094)
	for _, c := range []struct {
		s    string
		want []told
	}{
		{"", nil},
		{"\n", []told{{"", api.ErrForm}}},
		{"\n\n", []told{{"", api.ErrForm}, {"", api.ErrForm}}},
		{`"a"`, []told{{"a", api.OK}}},
		{"\"a\"\n", []told{{"a", api.OK}}},
		{"\"a\"\n\"b\"", []told{{"a", api.OK}, {"b", api.OK}}},
		{"\"a\"\n\n\"b\"\n", []told{{"a", api.OK}, {"", api.ErrForm}, {"b", api.OK}}},
		{"\"\"\n", []told{{"", api.OK}}},
		{"\"\\n\\u0041\\ud83d\\ude00\"\n", []told{{"\nA\U0001f600", api.OK}}},
		{" \t\"a\" \r\n", []told{{"a", api.OK}}},
		{"\"a\"\r\"b\"\n", []told{{"", api.ErrForm}}},
		{"\"a\"\v\n\u0085\"a\"\n", []told{{"", api.ErrForm}, {"", api.ErrForm}}},
		{`"` + long + "\" \n\n", []told{{"", api.ErrLong}, {"", api.ErrForm}}},
		{"\"a\nb\"", []told{{"", api.ErrForm}, {"", api.ErrForm}}},
		{"1\nnull\ntrue\nfalse\n[]\n{}\n[\"a\"]\n{\"a\":\"b\"}", slices.Repeat([]told{{"", api.ErrKind}}, 8)},
		{"\"\xff\"\n", []told{{"", api.ErrUTF}}},
		{"\"a\"\n\xff\n\"b\"", []told{{"a", api.OK}, {"", api.ErrUTF}, {"b", api.OK}}},
		{`"\ud800"`, []told{{"", api.ErrUTF}}},
		{nested(9) + "\n" + listed(256) + "\n" + `{"a":1,"a":2}`, []told{{"", api.ErrDeep}, {"", api.ErrMany}, {"", api.ErrTwice}}},
		{`"` + long + "\"\n\"a" + long + "\"\n", []told{{long, api.OK}, {"", api.ErrLong}}},
		{"\"a\" x\nx\"a\"\n\"a\"", []told{{"", api.ErrForm}, {"", api.ErrForm}, {"a", api.OK}}},
	} {
		if got := lines(c.s); !slices.Equal(got, c.want) {
			t.Errorf("Strings(%.40q) = %v", c.s, got)
		}
	}
}

// P7.2: as often and as far as one likes.
func TestStringsLeft(t *testing.T) {
	seq := json.Strings("\"a\"\n1\nx")
	all := []told{{"a", api.OK}, {"", api.ErrKind}, {"", api.ErrForm}}
	for stop := 1; stop <= len(all)+1; stop++ {
		var got []told
		for text, err := range seq {
			got = append(got, told{text, err})
			if len(got) == stop {
				break
			}
		}
		if !slices.Equal(got, all[:min(stop, len(all))]) {
			t.Errorf("left behind %d: %v", stop, got)
		}
	}
}

// An answer shares no memory with another one; what is handed in stays.
func TestOwnMemory(t *testing.T) {
	const s = `{"a":[1,"x"],"b":null}`
	one, _ := json.Parse(s)
	other, _ := json.Parse(s)
	kept := slices.Clone(other)
	clear(one[:cap(one)])
	if !slices.Equal(other, kept) {
		t.Errorf("the one row turned the other one to %v", other)
	}
	room := append(slices.Clone(kept), json.Node{Kind: 9, Key: "spare"})
	json.Check(room[:len(kept)])
	json.Depth(room[:len(kept)])
	if !slices.Equal(room[:len(kept)], kept) || room[len(kept)] != (json.Node{Kind: 9, Key: "spare"}) {
		t.Errorf("the row was turned to %v", room)
	}
}

// nodes gives a row out of bytes, whatever they are.
func nodes(b []byte) []json.Node {
	var row []json.Node
	for ; len(b) >= 4; b = b[4:] {
		n := json.Node{Kind: int(b[0] % 9), Parent: int(b[1]%8) - 2, End: int(b[2]%8) - 1}
		switch b[3] % 8 {
		case 1:
			n.Key = "a"
		case 2:
			n.Text = "1"
		case 3:
			n.Key, n.Text = "\xff", "\xff"
		case 4:
			n.Parent, n.End = math.MinInt, math.MaxInt
		case 5:
			n.Parent, n.End = math.MaxInt, math.MinInt
		}
		row = append(row, n)
	}
	return row
}

// P1: every call ends and none panics, whatever bytes and rows come.
func FuzzEnds(f *testing.F) {
	f.Add("", []byte{})
	f.Add(`{"a":[1,-2.5e3,"\ud83d\ude00",{}],"b":null}`, []byte{6, 1, 2, 0, 1, 2, 3, 0})
	f.Add("[[[[[[[[[", []byte{7, 1, 4, 0, 1, 2, 3, 1, 1, 2, 4, 1})
	f.Add(`"\ud800`, []byte{6, 0, 0, 4, 6, 0, 0, 5, 8, 7, 6, 3})
	f.Add("\"\\", []byte{6, 3, 3, 0, 6, 3, 3, 0})
	f.Add(`{"a":1,"a":2}`, []byte{7, 1, 3, 0, 4, 2, 3, 3})
	f.Add("\"a\"\n\n\xff", []byte{5, 1, 2, 3})
	f.Fuzz(func(t *testing.T, s string, b []byte) {
		if !bytes.Contains(bytes.ToLower([]byte(s)), []byte(`\ud`)) { // of lone ones the library makes something else
			agrees(t, s)
		}
		got, err := json.Parse(s)
		if (err == api.OK) != (len(got) > 0) || err == api.OK && json.Check(got) != api.OK {
			t.Errorf("Parse(%q) = %v, %v", s, got, err)
		}
		if json.Numeral(s) && !stdjson.Valid([]byte(s)) {
			t.Errorf("Numeral(%q)", s)
		}
		for text, err := range json.Strings(s) {
			if err != api.OK && text != "" {
				t.Errorf("Strings(%q) gives %q, %v", s, text, err)
			}
		}
		row := nodes(b)
		if deep := json.Depth(row); deep < 0 || deep > len(row) {
			t.Errorf("Depth(%v) = %d", row, deep)
		}
		if json.Check(row) == api.OK && first(row) != api.OK {
			t.Errorf("Check(%v) is OK", row)
		}
	})
}
