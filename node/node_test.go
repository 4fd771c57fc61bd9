package node_test

import (
	"iter"
	"math"
	"math/rand/v2"
	"slices"
	"strings"
	"testing"

	"cashier/api"
	"cashier/json"
	"cashier/node"
	"cashier/print"
)

// member is what Members tells at a time.
type member struct {
	key string
	at  int
}

// parsed gives the row of the text.
func parsed(t *testing.T, s string) []json.Node {
	t.Helper()
	l, err := json.Parse(s)
	if err != api.OK {
		t.Fatalf("%s: %v", s, err)
	}
	return l
}

// items and members give what Items and Members go through.
func items(l []json.Node, i int) []int { return slices.Collect(node.Items(l, i)) }

func members(l []json.Node, i int) []member { return pairs(node.Members(l, i)) }

func pairs(seq iter.Seq2[string, int]) []member {
	var out []member
	for key, at := range seq {
		out = append(out, member{key, at})
	}
	return out
}

// elsewhere gives places that a row of so many nodes doesn't have.
func elsewhere(nodes int) []int {
	return []int{-1, -2, -nodes, math.MinInt, nodes, nodes + 1, math.MaxInt - 1, math.MaxInt}
}

const (
	some = `{"a":[1,"x",[null,{"a":2}],{}],"":{"":{"":true}},"b":"y","c":{"a":"z","b":[],"d":{"e":"w"}}}`
	// 0: the whole; 1: a, 2: 1, 3: x, 4: [, 5: null, 6: {, 7: 2, 8: {}; 9, 10, 11: the unnamed ones; 12: b; 13: c, 14: a,
	// 15: b, 16: d, 17: e
)

// P9.1: the places of those right within a value.
func TestItems(t *testing.T) {
	l := parsed(t, some)
	for i, want := range [][]int{
		{1, 9, 12, 13}, {2, 3, 4, 8}, nil, nil, {5, 6}, nil, {7}, nil, nil, {10}, {11}, nil, nil, {14, 15, 16}, nil, nil, {17}, nil,
	} {
		if got := items(l, i); !slices.Equal(got, want) {
			t.Errorf("Items at %d: %v, wanted %v", i, got, want)
		}
	}
	for _, s := range []string{"1", `"[]"`, "null", "true", "false", "[]", "{}"} {
		if got := items(parsed(t, s), 0); len(got) != 0 {
			t.Errorf("Items of %s: %v", s, got)
		}
	}
}

// P9.1: the names and places of an object's members, of nothing else's.
func TestMembers(t *testing.T) {
	l := parsed(t, some)
	want := map[int][]member{
		0:  {{"a", 1}, {"", 9}, {"b", 12}, {"c", 13}},
		6:  {{"a", 7}},
		9:  {{"", 10}},
		10: {{"", 11}},
		13: {{"a", 14}, {"b", 15}, {"d", 16}},
		16: {{"e", 17}},
	}
	for i := range l {
		if got := members(l, i); !slices.Equal(got, want[i]) {
			t.Errorf("Members at %d: %v, wanted %v", i, got, want[i])
		}
	}
}

// P9.1: the place that names lead to.
func TestGet(t *testing.T) {
	l := parsed(t, some)
	for _, c := range []struct {
		from int
		path []string
		at   int
		ok   bool
	}{
		{0, nil, 0, true},
		{0, []string{}, 0, true},
		{7, nil, 7, true},
		{17, nil, 17, true},
		{0, []string{"a"}, 1, true},
		{0, []string{""}, 9, true},
		{0, []string{"", ""}, 10, true},
		{0, []string{"", "", ""}, 11, true},
		{0, []string{"", "", "", ""}, 0, false},
		{0, []string{"c", "d", "e"}, 17, true},
		{0, []string{"c", "d", "e", ""}, 0, false},
		{0, []string{"c", "d", "e", "e"}, 0, false},
		{0, []string{"c", "a"}, 14, true},
		{13, []string{"a"}, 14, true},
		{13, []string{"d", "e"}, 17, true},
		{6, []string{"a"}, 7, true},
		{0, []string{"d"}, 0, false},           // one of a member's
		{0, []string{"e"}, 0, false},           // likewise
		{0, []string{"c", "c"}, 0, false},      // its own name
		{0, []string{"A"}, 0, false},           // no such name
		{0, []string{"a "}, 0, false},          // likewise
		{0, []string{"c", "x", "e"}, 0, false}, // the second one isn't there
		{0, []string{"x", "c"}, 0, false},      // the first one isn't there
		{0, []string{"a", ""}, 0, false},       // an array has no names
		{1, []string{""}, 0, false},            // likewise
		{1, []string{"a"}, 0, false},           // an item's member isn't its own
		{0, []string{"b", "y"}, 0, false},      // a text is no name
		{12, []string{""}, 0, false},           // a string has no members
		{5, []string{""}, 0, false},            // null has none
		{8, []string{""}, 0, false},            // an object without members
		{10, []string{"a"}, 0, false},          // one of a value around
		{0, []string{"c", "b", ""}, 0, false},  // an empty array
	} {
		if at, ok := node.Get(l, c.from, c.path...); at != c.at || ok != c.ok {
			t.Errorf("Get from %d on of %q: %d, %v", c.from, c.path, at, ok)
		}
	}
}

// P9.1: the text of a member that is a string.
func TestText(t *testing.T) {
	l := parsed(t, some)
	for _, c := range []struct {
		from int
		key  string
		text string
		ok   bool
	}{
		{0, "b", "y", true},
		{13, "a", "z", true},
		{16, "e", "w", true},
		{0, "a", "", false},  // an array
		{0, "", "", false},   // an object
		{6, "a", "", false},  // a number
		{10, "", "", false},  // true
		{0, "x", "", false},  // not there
		{0, "e", "", false},  // one of a member's
		{12, "", "", false},  // from a string on
		{12, "b", "", false}, // likewise, by its own name
		{14, "a", "", false}, // likewise
		{3, "", "", false},   // likewise, of an item
		{1, "", "", false},   // an array has no names
		{17, "", "", false},  // from a string on
	} {
		if text, ok := node.Text(l, c.from, c.key); text != c.text || ok != c.ok {
			t.Errorf("Text from %d on of %q: %q, %v", c.from, c.key, text, ok)
		}
	}
	l = parsed(t, `{"n":null,"f":false,"t":true,"1":1,"e":"","u":"\u20ac\n"}`)
	for key, want := range map[string]string{"e": "", "u": "\u20ac\n"} {
		if text, ok := node.Text(l, 0, key); text != want || !ok {
			t.Errorf("Text of %q: %q, %v", key, text, ok)
		}
	}
	for _, key := range []string{"n", "f", "t", "1"} {
		if text, ok := node.Text(l, 0, key); text != "" || ok {
			t.Errorf("Text of %q: %q, %v", key, text, ok)
		}
	}
}

// P9.1: the places of all nodes of which something is true.
func TestFind(t *testing.T) {
	l := parsed(t, some)
	for _, c := range []struct {
		what string
		so   func(n json.Node) bool
		want []int
	}{
		{"strings", func(n json.Node) bool { return n.Kind == json.String }, []int{3, 12, 14, 17}},
		{"of the name a", func(n json.Node) bool { return n.Key == "a" }, []int{1, 7, 14}},
		{"of the text y", func(n json.Node) bool { return n.Text == "y" }, []int{12}},
		{"right within the whole", func(n json.Node) bool { return n.Parent == 0 }, []int{1, 9, 12, 13}},
		{"up to the whole's end", func(n json.Node) bool { return n.End == len(l) }, []int{0, 13, 16, 17}},
		{"none", func(n json.Node) bool { return false }, nil},
		{"all", func(n json.Node) bool { return true }, []int{0, 1, 2, 3, 4, 5, 6, 7, 8, 9, 10, 11, 12, 13, 14, 15, 16, 17}},
	} {
		if got := slices.Collect(node.Find(l, c.so)); !slices.Equal(got, c.want) {
			t.Errorf("%s: %v, wanted %v", c.what, got, c.want)
		}
	}
	for range node.Find(nil, func(n json.Node) bool { return true }) {
		t.Error("no row has something")
	}
}

// P9.1, P9.2: a place that isn't there has nothing.
func TestElsewhere(t *testing.T) {
	for _, l := range [][]json.Node{nil, {}, parsed(t, "1"), parsed(t, "[]"), parsed(t, "{}"), parsed(t, some)} {
		for _, i := range elsewhere(len(l)) {
			if got := items(l, i); len(got) != 0 {
				t.Errorf("%d nodes, Items at %d: %v", len(l), i, got)
			}
			if got := members(l, i); len(got) != 0 {
				t.Errorf("%d nodes, Members at %d: %v", len(l), i, got)
			}
			for _, path := range [][]string{nil, {""}, {"a"}, {"c", "d"}} {
				if at, ok := node.Get(l, i, path...); at != 0 || ok {
					t.Errorf("%d nodes, Get from %d on of %q: %d, %v", len(l), i, path, at, ok)
				}
			}
			for _, key := range []string{"", "b"} {
				if text, ok := node.Text(l, i, key); text != "" || ok {
					t.Errorf("%d nodes, Text from %d on of %q: %q, %v", len(l), i, key, text, ok)
				}
			}
			if got := node.Row(l, i); len(got) != 0 {
				t.Errorf("%d nodes, Row at %d: %v", len(l), i, got)
			}
		}
	}
}

// leaves leaves what is gone through behind each number of elements, and tells
// whether those were the first ones of all.
func leaves[T comparable](all []T, seq iter.Seq[T]) bool {
	for stop := 1; stop <= len(all)+1; stop++ {
		var got []T
		for x := range seq {
			got = append(got, x)
			if len(got) == stop {
				break
			}
		}
		if !slices.Equal(got, all[:min(stop, len(all))]) {
			return false
		}
	}
	return true
}

// joined gives names and places as one.
func joined(seq iter.Seq2[string, int]) iter.Seq[member] {
	return func(yield func(member) bool) {
		for key, at := range seq {
			if !yield(member{key, at}) {
				return
			}
		}
	}
}

// P9.1: as often and as far as one likes, and what is there then.
func TestLeft(t *testing.T) {
	l := parsed(t, some)
	if !leaves([]int{1, 9, 12, 13}, node.Items(l, 0)) {
		t.Error("Items, left")
	}
	if !leaves([]member{{"a", 1}, {"", 9}, {"b", 12}, {"c", 13}}, joined(node.Members(l, 0))) {
		t.Error("Members, left")
	}
	if !leaves([]int{3, 12, 14, 17}, node.Find(l, func(n json.Node) bool { return n.Kind == json.String })) {
		t.Error("Find, left")
	}
	row := parsed(t, `{"a":1,"b":2}`)
	places, names := node.Items(row, 0), node.Members(row, 0)
	found := node.Find(row, func(n json.Node) bool { return n.Kind == json.Array })
	copy(row, parsed(t, `[{"a":1}]`))
	if got := slices.Collect(places); !slices.Equal(got, []int{1}) {
		t.Errorf("Items of another row: %v", got)
	}
	if got := pairs(names); len(got) != 0 {
		t.Errorf("Members of another row: %v", got)
	}
	if got := slices.Collect(found); !slices.Equal(got, []int{0}) {
		t.Errorf("Find in another row: %v", got)
	}
}

// P9.2: rows of one node.
func TestLone(t *testing.T) {
	for _, s := range []string{"", "a", "1", "-1.5e3", "\x00\xff\xed\xa0\x80", "\u20ac", strings.Repeat("9", 5000)} {
		if got := node.String(s); !slices.Equal(got, []json.Node{{Kind: json.String, Text: s, Parent: -1, End: 1}}) {
			t.Errorf("String(%.40q) = %v", s, got)
		}
		if got := node.Number(s); !slices.Equal(got, []json.Node{{Kind: json.Number, Text: s, Parent: -1, End: 1}}) {
			t.Errorf("Number(%.40q) = %v", s, got)
		}
	}
	for kind, want := range map[int]int{
		json.Null: json.Null, json.False: json.False, json.True: json.True,
		json.Number: json.Null, json.String: json.Null, json.Array: json.Null, json.Object: json.Null,
		0: json.Null, -1: json.Null, 8: json.Null, 258: json.Null, math.MinInt: json.Null, math.MaxInt: json.Null,
	} {
		if got := node.Word(kind); !slices.Equal(got, []json.Node{{Kind: want, Parent: -1, End: 1}}) {
			t.Errorf("Word(%d) = %v", kind, got)
		}
	}
}

// P9.2: rows of objects and arrays.
func TestLay(t *testing.T) {
	one, x, null := node.Number("1"), node.String("x"), node.Word(json.Null)
	deep := parsed(t, `{"k":[{"m":"n"}]}`)
	for _, c := range []struct {
		want string
		got  []json.Node
	}{
		{`[]`, node.Array()},
		{`{}`, node.Object()},
		{`[]`, node.Array(nil, []json.Node{}, nil)},
		{`{}`, node.Object(node.Member{}, node.Member{Key: "a", Row: []json.Node{}}, node.Member{Key: "a"})},
		{`{"a":[]}`, node.Object(node.Member{"a", node.Array()})},
		{`[{}]`, node.Array(node.Object())},
		{`[1,"x",null]`, node.Array(one, x, null)},
		{`[1,"x"]`, node.Array(nil, one, nil, nil, x, []json.Node{})},
		{`[1,1,[1]]`, node.Array(one, one, node.Array(one))},
		{`{"b":1,"a":"x","":null}`, node.Object(node.Member{"b", one}, node.Member{"a", x}, node.Member{"", null})},
		{`{"b":1,"a":"x"}`, node.Object(node.Member{"z", nil}, node.Member{"b", one}, node.Member{"b", nil}, node.Member{"a", x})},
		{`[{"k":[{"m":"n"}]},[{"k":[{"m":"n"}]}],1]`, node.Array(deep, node.Array(deep), one)},
		{`{"y":{"k":[{"m":"n"}]},"k":{"y":{"k":[{"m":"n"}]},"z":1}}`,
			node.Object(node.Member{"y", deep}, node.Member{"k", node.Object(node.Member{"y", deep}, node.Member{"z", one})})},
		{`[true,false]`, node.Array(node.Word(json.True), node.Word(json.False))},
	} {
		if want := parsed(t, c.want); !slices.Equal(c.got, want) {
			t.Errorf("laid as %v, wanted %v", c.got, want)
		}
	}
}

// P9.2: a value as a row of its own, without its name.
func TestRow(t *testing.T) {
	l := parsed(t, some)
	for i, want := range []string{
		some, `[1,"x",[null,{"a":2}],{}]`, `1`, `"x"`, `[null,{"a":2}]`, `null`, `{"a":2}`, `2`, `{}`, `{"":{"":true}}`, `{"":true}`,
		`true`, `"y"`, `{"a":"z","b":[],"d":{"e":"w"}}`, `"z"`, `[]`, `{"e":"w"}`, `"w"`,
	} {
		if got := node.Row(l, i); !slices.Equal(got, parsed(t, want)) {
			t.Errorf("Row at %d: %v, wanted that of %s", i, got, want)
		}
	}
}

// tree is a value, laid without the package.
type tree struct {
	kind      int
	key, text string
	within    []tree
}

// lay lays the tree behind a row, within the value at parent.
func (v tree) lay(row []json.Node, parent int) []json.Node {
	at := len(row)
	row = append(row, json.Node{Kind: v.kind, Key: v.key, Text: v.text, Parent: parent})
	for _, inner := range v.within {
		row = inner.lay(row, at)
	}
	row[at].End = len(row)
	return row
}

// alone gives the row of the tree without its name.
func (v tree) alone() []json.Node {
	v.key = ""
	return v.lay(nil, -1)
}

// all gives the tree and all within it, in the order of its row.
func (v tree) all() []tree {
	out := []tree{v}
	for _, inner := range v.within {
		out = append(out, inner.all()...)
	}
	return out
}

// built lays the tree by the package's calls.
func (v tree) built() []json.Node {
	var rows [][]json.Node
	var named []node.Member
	for _, inner := range v.within {
		rows = append(rows, inner.built())
		named = append(named, node.Member{Key: inner.key, Row: inner.built()})
	}
	switch v.kind {
	case json.Array:
		return node.Array(rows...)
	case json.Object:
		return node.Object(named...)
	case json.String:
		return node.String(v.text)
	case json.Number:
		return node.Number(v.text)
	}
	return node.Word(v.kind)
}

// again lays what is gone through in the value at i.
func again(l []json.Node, i int) []json.Node {
	var rows [][]json.Node
	var named []node.Member
	switch n := l[i]; n.Kind {
	case json.Array:
		for at := range node.Items(l, i) {
			rows = append(rows, again(l, at))
		}
		return node.Array(rows...)
	case json.Object:
		for key, at := range node.Members(l, i) {
			named = append(named, node.Member{Key: key, Row: again(l, at)})
		}
		return node.Object(named...)
	case json.String:
		return node.String(n.Text)
	case json.Number:
		return node.Number(n.Text)
	default:
		return node.Word(n.Kind)
	}
}

// right gives the places of those right within the value, by their Parents.
func right(l []json.Node, i int) []int {
	var out []int
	for at, n := range l {
		if n.Parent == i {
			out = append(out, at)
		}
	}
	return out
}

// led gives the place that the names lead to, by Parents.
func led(l []json.Node, i int, path []string) (int, bool) {
	if len(path) == 0 {
		return i, true
	}
	for _, at := range right(l, i) {
		if l[i].Kind == json.Object && l[at].Key == path[0] {
			return led(l, at, path[1:])
		}
	}
	return 0, false
}

// agrees holds what the package tells of the tree's row, and lays, against the
// tree.
func agrees(t *testing.T, v tree, keys []string) {
	t.Helper()
	l := v.alone()
	if got := v.built(); !slices.Equal(got, l) {
		t.Fatalf("laid as %v, wanted %v", got, l)
	}
	if got := again(l, 0); !slices.Equal(got, l) {
		t.Fatalf("laid again as %v, wanted %v", got, l)
	}
	for i, value := range v.all() {
		want := right(l, i)
		if got := items(l, i); !slices.Equal(got, want) {
			t.Fatalf("%v: Items at %d: %v", l, i, got)
		}
		var named []member
		for _, at := range want {
			if l[i].Kind == json.Object {
				named = append(named, member{l[at].Key, at})
			}
		}
		if got := members(l, i); !slices.Equal(got, named) {
			t.Fatalf("%v: Members at %d: %v", l, i, got)
		}
		if got := node.Row(l, i); !slices.Equal(got, value.alone()) {
			t.Fatalf("%v: Row at %d: %v", l, i, got)
		}
		for _, a := range keys {
			at, ok := led(l, i, []string{a})
			text, isText := node.Text(l, i, a)
			if isText != (ok && l[at].Kind == json.String) || isText && text != l[at].Text || !isText && text != "" {
				t.Fatalf("%v: Text from %d on of %q: %q, %v", l, i, a, text, isText)
			}
			for _, path := range [][]string{nil, {a}, {a, keys[0]}, {keys[0], a}, {a, a, a}} {
				at, ok := led(l, i, path)
				if got, isThere := node.Get(l, i, path...); got != at || isThere != ok {
					t.Fatalf("%v: Get from %d on of %q: %d, %v", l, i, path, got, isThere)
				}
			}
		}
	}
}

// grown gives some tree, of names and texts of whatever bytes.
func grown(r *rand.Rand, deep int, keys []string) tree {
	v := tree{kind: 1 + r.IntN(7), key: keys[r.IntN(len(keys))]}
	if r.IntN(3) == 0 {
		v.kind = json.Array + r.IntN(2)
	}
	switch v.kind {
	case json.Number, json.String:
		v.text = keys[r.IntN(len(keys))]
	case json.Array, json.Object:
		for n := r.IntN(6); n > 0 && deep > 0; n-- {
			inner := grown(r, deep-1, keys)
			if v.kind == json.Array {
				inner.key = ""
			}
			v.within = append(v.within, inner)
		}
	}
	return v
}

// P9.1, P9.2, P9.3: small values and great ones, beyond the limits too, with a
// name twice, and of whatever bytes.
func TestGrown(t *testing.T) {
	r := rand.New(rand.NewPCG(9, 9))
	keys := []string{"", "a", "b", "\xff", "\x00", "\"", "\u20ac", "\xed\xa0\x80", "a.b", strings.Repeat("l", 5000)}
	most, deepest := 0, 0
	for range 3000 {
		few := keys[:1+r.IntN(len(keys))]
		v := grown(r, r.IntN(12), few)
		if len(v.all()) > 300 {
			continue // it takes long
		}
		l := v.alone()
		most, deepest = max(most, len(l)), max(deepest, json.Depth(l))
		agrees(t, v, few)
	}
	if most <= 256 || deepest <= 8 {
		t.Errorf("at most %d nodes, %d deep", most, deepest)
	}
}

// P9.1, P9.2: values that stand deep in one another.
func TestDeep(t *testing.T) {
	const deep = 1500
	l := node.String("x")
	path := slices.Repeat([]string{"k"}, deep)
	for range deep {
		l = node.Object(node.Member{Key: "j", Row: node.Array()}, node.Member{Key: "k", Row: l})
	}
	at, ok := node.Get(l, 0, path...)
	if !ok || at != 2*deep || l[at].Text != "x" {
		t.Errorf("Get: %d, %v", at, ok)
	}
	if at, ok := node.Get(l, 0, append(path, "k")...); at != 0 || ok {
		t.Errorf("Get, one more: %d, %v", at, ok)
	}
	if got := node.Row(l, 2*deep-2); !slices.Equal(got, parsed(t, `{"j":[],"k":"x"}`)) {
		t.Errorf("Row: %v", got)
	}
	if got := node.Row(l, 0); !slices.Equal(got, l) {
		t.Error("Row of the whole is another one")
	}
}

// P9.1: of two members of one name, which a laid object may have, Get and Text
// take the first one.
func TestTwice(t *testing.T) {
	l := node.Object(
		node.Member{Key: "a", Row: node.Number("1")},
		node.Member{Key: "a", Row: node.Object(node.Member{Key: "b", Row: node.String("y")})},
		node.Member{Key: "c", Row: node.String("first")},
		node.Member{Key: "c", Row: node.String("second")},
	)
	if got := members(l, 0); !slices.Equal(got, []member{{"a", 1}, {"a", 2}, {"c", 4}, {"c", 5}}) {
		t.Errorf("Members: %v", got)
	}
	if at, ok := node.Get(l, 0, "a"); at != 1 || !ok {
		t.Errorf("Get: %d, %v", at, ok)
	}
	if at, ok := node.Get(l, 0, "a", "b"); at != 0 || ok {
		t.Errorf("Get of the second one's: %d, %v", at, ok)
	}
	if text, ok := node.Text(l, 0, "c"); text != "first" || !ok {
		t.Errorf("Text: %q, %v", text, ok)
	}
}

// P9.3: what is laid of what is gone through is printed as it was.
func TestPrinted(t *testing.T) {
	for _, s := range []string{some, "[]", "{}", "null", `"\u0000"`, "-0.5e-7", "[[[[[[[[]]]]]]]]", `{"":{"":{}}}`} {
		want, _ := print.Print(parsed(t, s))
		if got, err := print.Print(again(parsed(t, s), 0)); err != api.OK || got != want {
			t.Errorf("%s is %s, %v", s, got, err)
		}
	}
}

// What is handed in stays, spare room included.
func TestStays(t *testing.T) {
	spare := json.Node{Kind: 9, Key: "spare"}
	room := append(parsed(t, some), spare, spare)
	kept := slices.Clone(room)
	l := room[:len(room)-2]
	all := [][]json.Node{l, l, {spare}}
	named := []node.Member{{"a", l}, {"b", l}, {"spare", nil}}
	node.Array(all[:2]...)
	node.Object(named[:2]...)
	for i := range l {
		node.Row(l, i)
		items(l, i)
		members(l, i)
		node.Text(l, i, "b")
		node.Get(l, i, "c", "d")
	}
	for range node.Find(l, func(n json.Node) bool { n.Kind = 0; return true }) {
	}
	path := []string{"c", "d", "spare"}
	node.Get(l, 0, path[:2]...)
	if !slices.Equal(room, kept) {
		t.Errorf("the row was turned to %v", room)
	}
	if all[2][0] != spare || len(all[0]) != len(l) || named[2].Key != "spare" || named[0].Key != "a" || len(named[0].Row) != len(l) {
		t.Error("the rows that were handed in are others")
	}
	if !slices.Equal(path, []string{"c", "d", "spare"}) {
		t.Errorf("the path was turned to %q", path)
	}
}

// An answer shares no memory with what is handed in, or with another one.
func TestOwnMemory(t *testing.T) {
	for what, lay := range map[string]func(l []json.Node) []json.Node{
		"Row":           func(l []json.Node) []json.Node { return node.Row(l, 0) },
		"Row of an end": func(l []json.Node) []json.Node { return node.Row(l, len(l)-1) },
		"Array":         func(l []json.Node) []json.Node { return node.Array(l, l) },
		"Object":        func(l []json.Node) []json.Node { return node.Object(node.Member{Key: "a", Row: l}) },
		"String":        func(l []json.Node) []json.Node { return node.String("x") },
		"Number":        func(l []json.Node) []json.Node { return node.Number("1") },
		"Word":          func(l []json.Node) []json.Node { return node.Word(json.True) },
		"Array of none": func(l []json.Node) []json.Node { return node.Array() },
	} {
		l := parsed(t, some)
		kept := slices.Clone(l)
		one, other := lay(l), lay(l)
		want := slices.Clone(other)
		clear(one[:cap(one)])
		if !slices.Equal(l, kept) || !slices.Equal(other, want) || !slices.Equal(lay(l), want) {
			t.Errorf("%s shares memory", what)
		}
		clear(l)
		if !slices.Equal(other, want) {
			t.Errorf("%s keeps what is handed in", what)
		}
	}
}

// P1: every call ends and none panics, whatever bytes, places and kinds come.
func FuzzEnds(f *testing.F) {
	f.Add("", 0, "", "", 0)
	f.Add(some, 0, "c", "a", json.True)
	f.Add(`{"b":[1,-2.5e3,"\ud83d\ude00",{}],"a":null}`, 3, "b", "\xff", math.MaxInt)
	f.Add(`[[[]]]`, -1, "\x00", "", math.MinInt)
	f.Add(`{"":{"":""}}`, math.MaxInt, "", "", -1)
	f.Fuzz(func(t *testing.T, s string, i int, a, b string, kind int) {
		l, _ := json.Parse(s)
		named := node.Object(node.Member{a, l}, node.Member{b, node.String(s)}, node.Member{a, node.Array(l, node.Number(b), node.Word(kind))})
		for _, row := range [][]json.Node{l, named, node.Array(named, l, named)} {
			for at := range row {
				if got := again(row, at); !slices.Equal(got, node.Row(row, at)) {
					t.Errorf("%v: laid again from %d on: %v", row, at, got)
				}
			}
			for _, at := range append(elsewhere(len(row)), i, 0) {
				place, ok := node.Get(row, at, a, b)
				if (place != 0) != ok {
					t.Errorf("%v: Get from %d on of %q, %q: %d, %v", row, at, a, b, place, ok)
				}
				if text, ok := node.Text(row, at, b); !ok && text != "" {
					t.Errorf("%v: Text from %d on of %q: %q, %v", row, at, b, text, ok)
				}
				if len(members(row, at)) > len(items(row, at)) || len(node.Row(row, at)) > len(row) {
					t.Errorf("%v at %d: %v, %v", row, at, members(row, at), node.Row(row, at))
				}
			}
		}
		if found := slices.Collect(node.Find(named, func(n json.Node) bool { return n.Key == a })); !slices.IsSorted(found) {
			t.Errorf("Find of %q: %v", a, found)
		}
	})
}
