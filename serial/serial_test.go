package serial_test

import (
	stdjson "encoding/json"
	"maps"
	"math"
	"math/rand/v2"
	"slices"
	"strconv"
	"strings"
	"testing"

	"cashier/api"
	"cashier/json"
	"cashier/node"
	"cashier/print"
	"cashier/ranges"
	"cashier/serial"
)

// wide gives a range of ten cards that may be: the nth of such as are apart.
func wide(n int) ranges.Range {
	front := "400000000" + strconv.Itoa(100+n)
	return ranges.Range{From: front + "0", To: front + "9", ACS: "acs", Low: "2.1.0", High: "2.2.0", Mode: ranges.Full}
}

// rows gives that many such ranges.
func rows(n int) []ranges.Range {
	var out []ranges.Range
	for i := range n {
		out = append(out, wide(i))
	}
	return out
}

func adds(l ...ranges.Range) []serial.Change {
	var out []serial.Change
	for _, r := range l {
		out = append(out, serial.Change{Action: "A", Range: r})
	}
	return out
}

func drop(from string) serial.Change {
	return serial.Change{Action: "D", Range: ranges.Range{From: from}}
}

func turn(r ranges.Range) serial.Change { return serial.Change{Action: "M", Range: r} }

// named gives the range with another ACS.
func named(r ranges.Range, acs string) ranges.Range {
	r.ACS = acs
	return r
}

// table gives the table of ranges that may be.
func table(t *testing.T, l ...ranges.Range) ranges.Table {
	t.Helper()
	x, err := ranges.New(l...)
	if err != api.OK {
		t.Fatalf("New: %v", err)
	}
	return x
}

// list gives a table's ranges.
func list(x ranges.Table) []ranges.Range {
	var out []ranges.Range
	for _, r := range x.All() {
		out = append(out, r)
	}
	return out
}

// done gives the directory behind changes that are all right.
func done(t *testing.T, d serial.Directory, l ...serial.Change) serial.Directory {
	t.Helper()
	for _, c := range l {
		behind, err := d.Do(c)
		if err != api.OK {
			t.Fatalf("Do of %v: %v", c, err)
		}
		d = behind
	}
	return d
}

// is holds a directory against its number and its ranges; what it has kept,
// against the changes behind each number that it should have kept.
func is(t *testing.T, what string, d serial.Directory, number uint64, l []ranges.Range, kept []serial.Change) {
	t.Helper()
	if d.Serial() != number || !slices.Equal(list(d.Table()), l) {
		t.Errorf("%s: %d, %v; wanted %d, %v", what, d.Serial(), list(d.Table()), number, l)
	}
	for i := range len(kept) + 1 {
		if got, ok := d.Since(number - uint64(i)); !ok || !slices.Equal(got, kept[len(kept)-i:]) {
			t.Errorf("%s: since %d there are %v, %v; wanted %v", what, number-uint64(i), got, ok, kept[len(kept)-i:])
		}
	}
	for _, n := range []uint64{number - uint64(len(kept)) - 1, 0, 1, number + 1, number + 31, number + 32, 1 << 32, 1 << 63, math.MaxUint64} {
		if n <= number && number-n <= uint64(len(kept)) {
			continue
		}
		if got, ok := d.Since(n); ok || !slices.Equal(got, adds(l...)) {
			t.Errorf("%s: since %d there are %v, %v; wanted all ranges, false", what, n, got, ok)
		}
	}
}

// P19.1: the zero Directory is empty.
func TestZero(t *testing.T) {
	is(t, "the zero one", serial.Directory{}, 0, nil, nil)
	if !ranges.Same(serial.Directory{}.Table(), ranges.Table{}) {
		t.Error("the zero one has ranges")
	}
}

// P19.1: each action, and what it makes of the table.
func TestDo(t *testing.T) {
	a, b, c := wide(0), wide(1), wide(2)
	l := []serial.Change{
		adds(b)[0], adds(a)[0], turn(named(b, "other")), drop(a.From), adds(c)[0], turn(b), drop(b.From), adds(named(b, "again"))[0],
	}
	want := [][]ranges.Range{
		{b}, {a, b}, {a, named(b, "other")}, {named(b, "other")}, {named(b, "other"), c}, {b, c}, {c}, {named(b, "again"), c},
	}
	var d serial.Directory
	for i, x := range l {
		d = done(t, d, x)
		is(t, "behind the change "+strconv.Itoa(i), d, uint64(i)+1, want[i], l[:i+1])
	}
	// A turn may be one to what was, and is a change all the same.
	d = done(t, d, turn(c))
	is(t, "behind a turn to what was", d, 9, want[7], append(l, turn(c)))
}

// refused holds Do and Follow of a change against the error that is due.
func refused(t *testing.T, d serial.Directory, c serial.Change, want api.Errno) {
	t.Helper()
	got, err := d.Do(c)
	if err != want {
		t.Errorf("Do of %.200v: %v, wanted %v", c, err, want)
	}
	is(t, "beside an error", got, 0, nil, nil)
	x, err := serial.Follow(d.Table(), c)
	if err != want || x.Len() != 0 {
		t.Errorf("Follow of %.200v: %v, %v; wanted %v", c, list(x), err, want)
	}
}

// P19.1: what is no action, whatever range it is of.
func TestNoAction(t *testing.T) {
	d := done(t, serial.Directory{}, adds(wide(0))...)
	for _, action := range []string{
		"", "X", "a", "d", "m", "AA", "AD", "A ", " A", "Add", "ADD", "Drop", "Turn", "T", "R", "B", "C", "L", "N", "A\x00", "\x00", "\xff", "А", "Ａ", strings.Repeat("A", 1000),
	} {
		for _, r := range []ranges.Range{wide(0), wide(1), {}, {From: wide(0).From}} {
			refused(t, d, serial.Change{Action: action, Range: r}, api.ErrKind)
			refused(t, serial.Directory{}, serial.Change{Action: action, Range: r}, api.ErrKind)
		}
	}
}

// faults are ways in which a range may not be, one for each error.
func faults() map[api.Errno]ranges.Range {
	out := map[api.Errno]ranges.Range{}
	for err, do := range map[api.Errno]func(r *ranges.Range){
		api.ErrForm:  func(r *ranges.Range) { r.To += "0" },
		api.ErrOrder: func(r *ranges.Range) { r.To = strings.Repeat("0", len(r.To)) },
		api.ErrArg:   func(r *ranges.Range) { r.ACS = "a b" },
		api.ErrRange: func(r *ranges.Range) { r.Low = "2.3.0" },
		api.ErrKind:  func(r *ranges.Range) { r.Mode = 4 },
	} {
		r := wide(0)
		do(&r)
		out[err] = r
	}
	return out
}

// P19.1: layer 18's errors.
func TestErrors(t *testing.T) {
	empty, one, full := serial.Directory{}, done(t, serial.Directory{}, adds(wide(0))...), done(t, serial.Directory{}, adds(rows(64)...)...)
	over := wide(0)
	over.From = over.To
	for _, d := range []serial.Directory{one, full} {
		for err, r := range faults() {
			refused(t, d, serial.Change{Action: "A", Range: r}, err)
			refused(t, d, turn(r), err)
			refused(t, empty, serial.Change{Action: "A", Range: r}, err)
			refused(t, empty, turn(r), api.ErrNone)
		}
		refused(t, d, turn(over), api.ErrNone)
		for _, from := range []string{"", wide(64).From, over.From, wide(0).From + "0", "\xff"} {
			refused(t, d, drop(from), api.ErrNone)
			refused(t, empty, drop(from), api.ErrNone)
		}
	}
	refused(t, one, adds(wide(0))[0], api.ErrThere)
	refused(t, one, adds(over)[0], api.ErrThere)
	refused(t, full, adds(wide(64))[0], api.ErrMany)
	longer := wide(3)
	longer.To = wide(4).From
	refused(t, full, turn(longer), api.ErrThere)
	is(t, "the full one", full, 64, rows(64), adds(rows(64)[32:]...))
	full = done(t, full, drop(wide(7).From), adds(wide(64))[0])
	is(t, "one for another", full, 66, slices.Concat(rows(7), rows(65)[8:]), append(adds(rows(64)[34:]...), drop(wide(7).From), adds(wide(64))[0]))
}

// P19.1: of D the range counts by its From alone.
func TestDropByFrom(t *testing.T) {
	d := done(t, serial.Directory{}, adds(rows(3)...)...)
	from := wide(1).From
	for _, r := range []ranges.Range{
		{From: from}, wide(1), named(wide(1), "other"), {From: from, To: "x", ACS: "\xff", Low: "1", High: "0", Mode: -1},
		{From: from, To: wide(2).To, ACS: "acs", Low: "2.1.0", High: "2.2.0", Mode: 2},
	} {
		c := serial.Change{Action: "D", Range: r}
		left := []ranges.Range{wide(0), wide(2)}
		is(t, "Drop", done(t, d, c), 4, left, append(adds(rows(3)...), drop(from)))
		if x, err := serial.Follow(d.Table(), c); err != api.OK || !slices.Equal(list(x), left) {
			t.Errorf("Follow of %v: %v, %v", c, list(x), err)
		}
		r.From = wide(3).From
		refused(t, d, serial.Change{Action: "D", Range: r}, api.ErrNone)
	}
}

// P19.1: the last 32 changes are kept, and no more.
func TestKept(t *testing.T) {
	if serial.Kept != 32 {
		t.Errorf("Kept = %d", serial.Kept)
	}
	var d serial.Directory
	var all []serial.Change
	for n := range 200 {
		var c serial.Change
		switch r := wide(n / 2 % 60); {
		case n%2 == 0 && n < 120:
			c = adds(r)[0]
		case n%2 == 0:
			c = turn(named(r, "turn-"+strconv.Itoa(n)))
		default:
			c = turn(named(r, "acs-"+strconv.Itoa(n)))
		}
		d, all = done(t, d, c), append(all, c)
		l := list(d.Table())
		is(t, "behind "+strconv.Itoa(n+1), d, uint64(n)+1, l, all[max(0, len(all)-32):])
	}
}

// P19.1: a table behind changes.
func TestFollow(t *testing.T) {
	a, b, c := wide(0), wide(1), wide(2)
	x := table(t, a, b)
	for _, s := range []struct {
		l    []serial.Change
		want []ranges.Range
		err  api.Errno
	}{
		{nil, []ranges.Range{a, b}, api.OK},
		{[]serial.Change{}, []ranges.Range{a, b}, api.OK},
		{adds(c), []ranges.Range{a, b, c}, api.OK},
		{[]serial.Change{drop(a.From), drop(b.From)}, nil, api.OK},
		{[]serial.Change{drop(a.From), adds(named(a, "x"))[0]}, []ranges.Range{named(a, "x"), b}, api.OK},
		{[]serial.Change{turn(named(a, "x")), turn(named(a, "y"))}, []ranges.Range{named(a, "y"), b}, api.OK},
		// The first error counts, wherever it is.
		{[]serial.Change{drop(a.From), drop(a.From), {}}, nil, api.ErrNone},
		{[]serial.Change{{}, drop(c.From)}, nil, api.ErrKind},
		{[]serial.Change{adds(c)[0], adds(c)[0], turn(named(c, ""))}, nil, api.ErrThere},
		{[]serial.Change{adds(c)[0], turn(named(c, "")), adds(c)[0]}, nil, api.ErrArg},
		{[]serial.Change{adds(c)[0], drop(c.From), turn(c)}, nil, api.ErrNone},
	} {
		got, err := serial.Follow(x, s.l...)
		if err != s.err || !slices.Equal(list(got), s.want) {
			t.Errorf("Follow of %v: %v, %v; wanted %v, %v", s.l, list(got), err, s.want, s.err)
		}
		if !slices.Equal(list(x), []ranges.Range{a, b}) {
			t.Errorf("behind Follow of %v the table is %v", s.l, list(x))
		}
	}
	if got, err := serial.Follow(ranges.Table{}, adds(rows(64)...)...); err != api.OK || !ranges.Same(got, table(t, rows(64)...)) {
		t.Errorf("Follow of 64: %v, %v", list(got), err)
	}
	if got, err := serial.Follow(ranges.Table{}, adds(rows(65)...)...); err != api.ErrMany || got.Len() != 0 {
		t.Errorf("Follow of 65: %v, %v", list(got), err)
	}
}

// P19.1 and the rules of memory: a directory stays as it was, whatever is
// made of it, and of what it answers.
func TestStays(t *testing.T) {
	for _, n := range []int{0, 1, 5, 31, 32, 33, 50} {
		d := done(t, serial.Directory{}, adds(rows(n)...)...)
		kept := adds(rows(n)[max(0, n-32):]...)
		last := kept[max(0, len(kept)-31):]
		a, b := done(t, d, adds(wide(60))...), done(t, d, adds(wide(61))...)
		c := done(t, a, adds(wide(62))...)
		for range 2 {
			is(t, "it", d, uint64(n), rows(n), kept)
			is(t, "the one", a, uint64(n)+1, append(rows(n), wide(60)), slices.Concat(last, adds(wide(60))))
			is(t, "the other one", b, uint64(n)+1, append(rows(n), wide(61)), slices.Concat(last, adds(wide(61))))
			is(t, "the one's", c, uint64(n)+2, append(rows(n), wide(60), wide(62)), slices.Concat(last[max(0, len(last)-30):], adds(wide(60), wide(62))))
			for _, x := range []serial.Directory{d, a, b, c} {
				for i := range uint64(n + 4) {
					l, _ := x.Since(i)
					l = l[:cap(l)]
					for k := range l {
						l[k] = serial.Change{Action: "X"}
					}
				}
			}
		}
	}
}

// P19.1, P19.2: what is handed in is neither changed, spare room included,
// nor kept.
func TestHandedIn(t *testing.T) {
	l := adds(rows(6)...)
	l[2].Action, l[2].Range = "D", wide(0)
	kept := slices.Clone(l)
	x, err := serial.Follow(ranges.Table{}, l[:4]...)
	row := serial.Row(l[:4]...)
	if err != api.OK || !slices.Equal(l, kept) {
		t.Fatalf("%v: %v", err, l)
	}
	was, text := slices.Clone(row), list(x)
	clear(l)
	if !slices.Equal(row, was) || !slices.Equal(list(x), text) {
		t.Error("what was handed in is kept")
	}
	got, err := serial.Read(row, 0)
	if want := []serial.Change{kept[0], kept[1], drop(wide(0).From), kept[3]}; err != api.OK || !slices.Equal(got, want) || !slices.Equal(row, was) {
		t.Errorf("Read: %v, %v", got, err)
	}
	again, _ := serial.Read(row, 0)
	clear(got[:cap(got)])
	clear(row[:cap(row)])
	if again[0] != kept[0] || serial.Row(kept[:4]...)[0] != was[0] {
		t.Error("two answers share memory")
	}
}

// written gives the text of the row of the changes.
func written(t *testing.T, l ...serial.Change) string {
	t.Helper()
	s, err := print.Print(serial.Row(l...))
	if err != api.OK {
		t.Fatalf("Print of the row of %v: %v", l, err)
	}
	return s
}

// P19.2: changes as a row.
func TestRow(t *testing.T) {
	r := ranges.Range{From: "4000000000000", To: "4999999999999", ACS: "a", Low: "2.1.0", High: "2.2.0", Mode: 1}
	other := ranges.Range{From: "f", To: "t", ACS: `"`, Low: "", High: "€", Mode: 3}
	for _, c := range []struct {
		l    []serial.Change
		want string
	}{
		{nil, `[]`},
		{[]serial.Change{{"A", r}}, `[{"action":"A","from":"4000000000000","to":"4999999999999","acs":"a","low":"2.1.0","high":"2.2.0","mode":"1"}]`},
		{[]serial.Change{{"M", other}}, `[{"action":"M","from":"f","to":"t","acs":"\"","low":"","high":"€","mode":"3"}]`},
		{[]serial.Change{{"D", r}}, `[{"action":"D","from":"4000000000000"}]`},
		{[]serial.Change{{"D", ranges.Range{}}, {"A", ranges.Range{Mode: 2}}, {"D", other}},
			`[{"action":"D","from":""},{"action":"A","from":"","to":"","acs":"","low":"","high":"","mode":"2"},{"action":"D","from":"f"}]`},
	} {
		if got := written(t, c.l...); got != c.want {
			t.Errorf("the row of %v: %s, wanted %s", c.l, got, c.want)
		}
	}
}

// plain gives changes as a row has them: of D the From alone.
func plain(l []serial.Change) []serial.Change {
	out := slices.Clone(l)
	for i, c := range out {
		if c.Action == "D" {
			out[i] = drop(c.Range.From)
		}
	}
	return out
}

// P19.2: what is laid is read as it was, whatever bytes its texts have, and
// however much it is.
func TestBack(t *testing.T) {
	bytes := ""
	for b := range 256 {
		bytes += string([]byte{byte(b)})
	}
	texts := []string{"", "x", "\xff", "\x00", `"\`, "€", "\xed\xa0\x80", "1", "action", bytes, strings.Repeat("4", 100000)}
	var l []serial.Change
	for i, text := range texts {
		for _, action := range []string{"A", "M", "D"} {
			for mode := ranges.Full; mode <= ranges.Off; mode++ {
				other := texts[(i+mode)%len(texts)]
				l = append(l,
					serial.Change{Action: action, Range: ranges.Range{From: text, To: other, ACS: text, Low: other, High: text, Mode: mode}},
					serial.Change{Action: action, Range: ranges.Range{From: other, To: text, ACS: other, Low: text, High: other, Mode: mode}})
			}
		}
	}
	for i := range len(l) + 1 {
		some := l[i:]
		if i > 3 {
			some = l[i-1 : i]
		}
		row := serial.Row(some...)
		if got, err := serial.Read(row, 0); err != api.OK || !slices.Equal(got, plain(some)) {
			t.Errorf("%d changes come back as %d, %v", len(some), len(got), err)
		}
		// Within another row, behind whatever comes first.
		laid := node.Array(node.Array(), node.Object(node.Member{Key: "x", Row: row}))
		if got, err := serial.Read(laid, 3); err != api.OK || !slices.Equal(got, plain(some)) {
			t.Errorf("%d changes within another row come back as %d, %v", len(some), len(got), err)
		}
	}
}

// P19.2: what Row lays of changes that aren't any, Read refuses.
func TestNoChange(t *testing.T) {
	for _, mode := range []int{0, 4, -1, 10, 11, 257, 1<<32 + 1, math.MinInt, math.MaxInt} {
		r := wide(0)
		r.Mode = mode
		for _, c := range []serial.Change{adds(r)[0], turn(r)} {
			if got, err := serial.Read(serial.Row(adds(wide(1))[0], c), 0); err != api.ErrForm || len(got) != 0 {
				t.Errorf("%v comes back as %v, %v", c, got, err)
			}
		}
		c := serial.Change{Action: "D", Range: r}
		if got, err := serial.Read(serial.Row(c), 0); err != api.OK || !slices.Equal(got, []serial.Change{drop(r.From)}) {
			t.Errorf("%v comes back as %v, %v", c, got, err)
		}
	}
	for _, action := range []string{"", "X", "a", "d", "AA", "D ", "\xff"} {
		if got, err := serial.Read(serial.Row(serial.Change{Action: action, Range: wide(0)}), 0); err != api.ErrForm || len(got) != 0 {
			t.Errorf("the action %q comes back as %v, %v", action, got, err)
		}
	}
}

// parsed gives the row of the text.
func parsed(t *testing.T, s string) []json.Node {
	t.Helper()
	l, err := json.Parse(s)
	if err != api.OK {
		t.Fatalf("%s: %v", s, err)
	}
	return l
}

// members are an object's, as they are written.
type members map[string]string

// written gives the object's text, its members in some order.
func (m members) written() string {
	var out []string
	for name, text := range m {
		out = append(out, strconv.Quote(name)+":"+text)
	}
	return "{" + strings.Join(out, " , ") + "}"
}

// but gives them with another text; without the member, where that is empty.
func (m members) but(name, text string) members {
	out := maps.Clone(m)
	if out[name] = text; text == "" {
		delete(out, name)
	}
	return out
}

func whole(action string) members {
	return members{"action": action, "from": `"4"`, "to": `"5"`, "acs": `"a"`, "low": `"l"`, "high": `"h"`, "mode": `"2"`}
}

var wholeRange = ranges.Range{From: "4", To: "5", ACS: "a", Low: "l", High: "h", Mode: 2}

// reads holds Read of an array of that object, alone and between others,
// against the change that it is; refuses, against that it is none.
func reads(t *testing.T, s string, want serial.Change) {
	t.Helper()
	front, behind := `{"action":"D","from":"f"}`, `{"mode":"1","high":"","low":"","acs":"","to":"","from":"b","action":"M"}`
	around := turn(ranges.Range{From: "b", Mode: 1})
	for text, all := range map[string][]serial.Change{
		"[" + s + "]":                              {want},
		"[" + front + "," + s + "]":                {drop("f"), want},
		"[" + s + " ,\n" + behind + "]":            {want, around},
		"[" + front + "," + s + "," + behind + "]": {drop("f"), want, around},
		"[" + s + "," + s + "," + s + "]":          {want, want, want},
	} {
		if got, err := serial.Read(parsed(t, text), 0); err != api.OK || !slices.Equal(got, all) {
			t.Errorf("%s: %v, %v; wanted %v", text, got, err, all)
		}
	}
}

func refuses(t *testing.T, s string) {
	t.Helper()
	front := `{"action":"D","from":"f"}`
	for _, text := range []string{"[" + s + "]", "[" + front + "," + s + "]", "[" + s + "," + front + "]"} {
		if got, err := serial.Read(parsed(t, text), 0); err != api.ErrForm || len(got) != 0 {
			t.Errorf("%s: %v, %v", text, got, err)
		}
	}
}

// others are values that are no strings.
var others = []string{"null", "true", "false", "1", "2", "0", "[]", "{}", `["A"]`, `{"a":"A"}`, `["2"]`}

// P19.2: what an array's objects must have, and may.
func TestRead(t *testing.T) {
	for _, action := range []string{"A", "M"} {
		x := whole(strconv.Quote(action))
		c := serial.Change{Action: action, Range: wholeRange}
		reads(t, x.written(), c)
		for name := range x {
			refuses(t, x.but(name, "").written())
			for _, other := range others {
				refuses(t, x.but(name, other).written())
			}
			refuses(t, x.but(name, "").but(strings.ToUpper(name), x[name]).written())
		}
		for text, mode := range map[string]int{`"1"`: 1, `"2"`: 2, `"3"`: 3, `"\u0033"`: 3} {
			c.Range.Mode = mode
			reads(t, x.but("mode", text).written(), c)
		}
		for _, text := range []string{"", "0", "4", "01", "1 ", " 1", "+1", "-1", "1.0", "12", "11", "10", "full", "Full", "one", "１", "0x1", "257", "4294967297", "18446744073709551617"} {
			refuses(t, x.but("mode", strconv.Quote(text)).written())
		}
		// A range needn't be one that may be.
		c.Range.Mode = 2
		for _, text := range []string{"", " ", "€", "\u0000", "x\ny"} {
			b, _ := stdjson.Marshal(text)
			c.Range.To = text
			reads(t, x.but("to", string(b)).written(), c)
		}
	}
	for _, action := range []string{"", "X", "a", "d", "m", "AD", "A ", "Add", "\u0410"} {
		refuses(t, whole(strconv.Quote(action)).written())
	}
	reads(t, whole(`"\u0041"`).written(), serial.Change{Action: "A", Range: wholeRange})
}

// P19.2: of D there is no more than a From.
func TestReadDrop(t *testing.T) {
	x := members{"action": `"D"`, "from": `"4"`}
	reads(t, x.written(), drop("4"))
	reads(t, x.but("from", `""`).written(), drop(""))
	for name := range x {
		refuses(t, x.but(name, "").written())
		for _, other := range others {
			refuses(t, x.but(name, other).written())
		}
	}
	// A member more counts for nothing, whatever it is.
	for _, name := range []string{"to", "acs", "low", "high", "mode", "", "x", "From"} {
		for _, text := range append(others, `"4"`, `"x"`) {
			reads(t, x.but(name, text).written(), drop("4"))
		}
	}
	reads(t, whole(`"D"`).written(), drop("4"))
	for _, name := range []string{"", "x", "Action", "modes"} {
		for _, text := range append(others, `"4"`) {
			reads(t, whole(`"A"`).but(name, text).written(), serial.Change{Action: "A", Range: wholeRange})
		}
	}
}

// P19.2: values that are no array of objects, and places that aren't there.
func TestReadOthers(t *testing.T) {
	if got, err := serial.Read(parsed(t, "[ ]"), 0); err != api.OK || len(got) != 0 {
		t.Errorf("an empty array: %v, %v", got, err)
	}
	for _, s := range append(others, `"x"`, `{"a":`+whole(`"A"`).written()+`}`) {
		refuses(t, s)
		if l := parsed(t, s); l[0].Kind != json.Array {
			if got, err := serial.Read(l, 0); err != api.ErrForm || len(got) != 0 {
				t.Errorf("%s: %v, %v", s, got, err)
			}
		}
	}
	refuses(t, "["+whole(`"A"`).written()+"]")
	if got, err := serial.Read(parsed(t, whole(`"A"`).written()), 0); err != api.ErrForm || len(got) != 0 {
		t.Errorf("an object alone: %v, %v", got, err)
	}
	l := parsed(t, `{"a":[{"action":"D","from":"4"}],"b":[],"c":[[{"action":"D","from":"5"}]]}`)
	// 0: the whole; 1: a, 2: {, 3, 4; 5: b; 6: c, 7: [, 8: {, 9, 10.
	for i := range l {
		got, err := serial.Read(l, i)
		want, wanted := map[int][]serial.Change{1: {drop("4")}, 7: {drop("5")}}[i], api.ErrForm
		if i == 1 || i == 5 || i == 7 {
			wanted = api.OK
		}
		if err != wanted || !slices.Equal(got, want) {
			t.Errorf("Read at %d: %v, %v; wanted %v, %v", i, got, err, want, wanted)
		}
	}
	for _, i := range []int{-1, -2, math.MinInt, len(l), len(l) + 1, math.MaxInt} {
		if got, err := serial.Read(l, i); err != api.ErrForm || len(got) != 0 {
			t.Errorf("Read at %d: %v, %v", i, got, err)
		}
	}
	for _, i := range []int{-1, 0, 1} {
		if got, err := serial.Read(nil, i); err != api.ErrForm || len(got) != 0 {
			t.Errorf("Read of no row at %d: %v, %v", i, got, err)
		}
	}
}

// random gives a change by chance, now and then one that may not be.
func random(r *rand.Rand, now []ranges.Range) serial.Change {
	c := serial.Change{Action: []string{"A", "A", "A", "D", "M", "M"}[r.IntN(6)], Range: named(wide(r.IntN(80)), "acs-"+strconv.Itoa(r.IntN(1000)))}
	c.Range.Mode = 1 + r.IntN(3)
	if c.Action != "A" && len(now) > 0 && r.IntN(4) > 0 {
		c.Range.From = now[r.IntN(len(now))].From
		c.Range.To = c.Range.From[:12] + strconv.Itoa(r.IntN(10))
	}
	if r.IntN(20) == 0 {
		c.Action = "X"
	}
	if r.IntN(20) == 0 {
		c.Range.ACS = ""
	}
	if r.IntN(20) == 0 {
		c.Range.To = strings.Repeat("0", 13)
	}
	return c
}

// layer18 does the change to the table in the plainest way.
func layer18(x ranges.Table, c serial.Change) (ranges.Table, api.Errno) {
	if c.Action == "A" {
		return x.Add(c.Range)
	}
	if c.Action == "D" {
		return x.Drop(c.Range.From)
	}
	if c.Action == "M" {
		return x.Turn(c.Range)
	}
	return ranges.Table{}, api.ErrKind
}

// P19.1 and P19.3: a directory that turns by chance, against all tables that
// there were: who has one of them has that of now behind the changes since;
// who hasn't, behind those of false.
func TestFollowers(t *testing.T) {
	r := rand.New(rand.NewPCG(19, 3))
	met := map[api.Errno]int{}
	for range 8 {
		var d serial.Directory
		tables, all := []ranges.Table{{}}, []serial.Change(nil)
		for range 150 {
			x := tables[len(tables)-1]
			c := random(r, list(x))
			behind, err := d.Do(c)
			y, want := layer18(x, c)
			if met[err]++; err != want {
				t.Fatalf("Do of %v: %v, wanted %v", c, err, want)
			}
			if err == api.OK {
				d, tables, all = behind, append(tables, y), append(all, plain([]serial.Change{c})...)
			}
			is(t, "the directory", d, uint64(len(all)), list(tables[len(all)]), all[max(0, len(all)-32):])
			followed(t, d, tables)
			if t.Failed() {
				return
			}
		}
	}
	for _, err := range []api.Errno{api.OK, api.ErrKind, api.ErrArg, api.ErrOrder, api.ErrThere, api.ErrNone} {
		if met[err] < 10 {
			t.Errorf("%v was met %d times", err, met[err])
		}
	}
}

// followed holds what each follower has behind the changes, told by a row,
// against the table of now.
func followed(t *testing.T, d serial.Directory, tables []ranges.Table) {
	t.Helper()
	for n := range len(tables) + 3 {
		if n > 2 && n < len(tables)-36 && n%16 > 0 { // few of those who come too late
			continue
		}
		l, kept := d.Since(uint64(n))
		var x ranges.Table
		if kept {
			x = tables[n]
		}
		told, err := serial.Read(serial.Row(l...), 0)
		if err != api.OK || !slices.Equal(told, l) {
			t.Fatalf("%v comes back as %v, %v", l, told, err)
		}
		x, err = serial.Follow(x, told...)
		if err != api.OK || !ranges.Same(x, d.Table()) || !ranges.Same(x, tables[len(tables)-1]) {
			t.Fatalf("who has number %d has %v, %v", n, list(x), err)
		}
	}
}

// second reads, in another way, the changes that a value is; ok is false,
// where it is none.
func second(v any) (out []serial.Change, ok bool) {
	items, ok := v.([]any)
	if !ok {
		return nil, false
	}
	for _, item := range items {
		m, _ := item.(map[string]any)
		var texts []string
		for _, name := range []string{"action", "from", "to", "acs", "low", "high", "mode"} {
			if text, ok := m[name].(string); ok {
				texts = append(texts, text)
			} else if len(texts) < 2 || texts[0] != "D" {
				return nil, false
			}
		}
		switch texts[0] {
		case "D":
			out = append(out, drop(texts[1]))
			continue
		case "A", "M":
		default:
			return nil, false
		}
		mode := slices.Index([]string{"1", "2", "3"}, texts[6]) + 1
		if mode == 0 {
			return nil, false
		}
		out = append(out, serial.Change{Action: texts[0], Range: ranges.Range{From: texts[1], To: texts[2], ACS: texts[3], Low: texts[4], High: texts[5], Mode: mode}})
	}
	return out, true
}

// P1 and P19.2: whatever row comes, there is an end; Read has what a second
// one reads.
func FuzzRead(f *testing.F) {
	f.Add(`[]`, 0)
	f.Add(`{"a":[{"action":"D","from":"4"}]}`, 1)
	f.Add("["+whole(`"A"`).written()+","+whole(`"D"`).written()+"]", 0)
	f.Add(`[{"action":"M","from":"","to":"","acs":"","low":"","high":"","mode":"3"}]`, 0)
	f.Add(`[1,"x",null,[{}]]`, 4)
	f.Fuzz(func(t *testing.T, s string, i int) {
		l, err := json.Parse(s)
		if err != api.OK {
			return
		}
		got, e := serial.Read(l, i)
		if i < 0 || i >= len(l) {
			if e != api.ErrForm || len(got) != 0 {
				t.Errorf("Read of %q at %d: %v, %v", s, i, got, e)
			}
			return
		}
		text, _ := print.Print(node.Row(l, i))
		var v any
		if err := stdjson.Unmarshal([]byte(text), &v); err != nil {
			return
		}
		want, ok := second(v)
		if ok != (e == api.OK) || !ok && e != api.ErrForm || !slices.Equal(got, want) {
			t.Errorf("Read of %q at %d: %v, %v; wanted %v, %v", s, i, got, e, want, ok)
		}
	})
}

// P1: every call ends and none panics, whatever is handed in.
func FuzzEnds(f *testing.F) {
	r := wide(0)
	f.Add("A", r.From, r.To, r.ACS, r.Low, r.High, 1, uint64(0))
	f.Add("D", wide(1).From, "", "", "", "", 0, uint64(1))
	f.Add("M", wide(1).From, wide(1).To, "\xff", "2.1.0", "2.1.0", math.MinInt, uint64(math.MaxUint64))
	f.Add("", "\xff", "\x00", "", "", "", math.MaxInt, uint64(1<<63))
	f.Fuzz(func(t *testing.T, action, from, to, acs, low, high string, mode int, n uint64) {
		c := serial.Change{Action: action, Range: ranges.Range{From: from, To: to, ACS: acs, Low: low, High: high, Mode: mode}}
		d := done(t, serial.Directory{}, adds(wide(1))...)
		behind, err := d.Do(c)
		x, want := layer18(d.Table(), c)
		if err != want || !ranges.Same(x, behind.Table()) {
			t.Errorf("Do of %v: %v, %v", c, list(behind.Table()), err)
		}
		if y, e := serial.Follow(d.Table(), c); e != err || !ranges.Same(x, y) {
			t.Errorf("Follow of %v: %v, %v", c, list(y), e)
		}
		behind.Since(n)
		l, err := serial.Read(serial.Row(c), 0)
		known := action == "D" || (action == "A" || action == "M") && 1 <= mode && mode <= 3
		if known != (err == api.OK) || known && !slices.Equal(l, plain([]serial.Change{c})) {
			t.Errorf("%v comes back as %v, %v", c, l, err)
		}
	})
}
