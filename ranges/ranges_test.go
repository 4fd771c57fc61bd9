package ranges_test

import (
	"maps"
	"math"
	"math/big"
	"math/rand/v2"
	"regexp"
	"slices"
	"strconv"
	"strings"
	"testing"

	"cashier/api"
	"cashier/ranges"
)

// between gives a range that may be, if its ends may.
func between(from, to string) ranges.Range {
	return ranges.Range{From: from, To: to, ACS: "acs", Low: "2.1.0", High: "2.2.0", Mode: ranges.Full}
}

// list gives a table's ranges, and fails, where its places or its length don't
// count them.
func list(t *testing.T, x ranges.Table) []ranges.Range {
	t.Helper()
	var out []ranges.Range
	for i, r := range x.All() {
		if i != len(out) {
			t.Fatalf("the %dth range comes as %d", len(out), i)
		}
		out = append(out, r)
	}
	if x.Len() != len(out) {
		t.Fatalf("Len() = %d of %d ranges", x.Len(), len(out))
	}
	return out
}

// made gives the table of ranges that may be.
func made(t *testing.T, l ...ranges.Range) ranges.Table {
	t.Helper()
	x, err := ranges.New(l...)
	if err != api.OK {
		t.Fatalf("New: %v", err)
	}
	return x
}

// is holds a table, and the error beside it, against what they should be.
func is(t *testing.T, what string, x ranges.Table, err api.Errno, want []ranges.Range, wanted api.Errno) {
	t.Helper()
	if wanted != api.OK {
		want = nil
	}
	if got := list(t, x); err != wanted || !slices.Equal(got, want) {
		t.Errorf("%s: %v, %v; wanted %v, %v", what, got, err, want, wanted)
	}
}

// P18.1: the modes' numbers.
func TestModes(t *testing.T) {
	if ranges.Full != 1 || ranges.Attempts != 2 || ranges.Off != 3 {
		t.Errorf("the modes are %d, %d, %d", ranges.Full, ranges.Attempts, ranges.Off)
	}
}

// change is one that a range gets, and the error that is due then.
type change struct {
	do  func(r *ranges.Range)
	err api.Errno
}

// P18.1: what may be, and each fault by itself.
func TestCheck(t *testing.T) {
	ends := func(from, to string, err api.Errno) change {
		return change{func(r *ranges.Range) { r.From, r.To = from, to }, err}
	}
	acs := func(s string, err api.Errno) change {
		return change{func(r *ranges.Range) { r.ACS = s }, err}
	}
	versions := func(low, high string, err api.Errno) change {
		return change{func(r *ranges.Range) { r.Low, r.High = low, high }, err}
	}
	mode := func(n int, err api.Errno) change {
		return change{func(r *ranges.Range) { r.Mode = n }, err}
	}
	l := []change{
		{func(r *ranges.Range) { *r = ranges.Range{} }, api.ErrForm},

		ends("4111111111111111", "4111111111111111", api.OK),
		ends("0000000000000", "9999999999999", api.OK),
		ends("0000000000000000000", "0000000000000000001", api.OK),
		ends("4111111111111112", "4111111111111113", api.OK), // no check digits
		ends("", "", api.ErrForm),
		ends("", "4000000000000", api.ErrForm),
		ends("4000000000000", "", api.ErrForm),
		ends("4000000000000", "40000000000000", api.ErrForm),
		ends("40000000000000", "4000000000000", api.ErrForm),
		ends("400000000000", "4000000000000", api.ErrForm),
		ends("0400000000000", "400000000000", api.ErrForm),
		ends("400000000000a", "4000000000001", api.ErrForm),
		ends("4000000000000", "400000000000a", api.ErrForm),
		ends("+400000000000", "4000000000000", api.ErrForm),
		ends("4000000000000", " 400000000000", api.ErrForm),
		ends("4000 0000 0000", "4000 0000 0001", api.ErrForm),
		ends("400000000000/", "400000000000:", api.ErrForm),
		ends("٤٠٠٠٠٠٠٠", "٤٠٠٠٠٠٠٠", api.ErrForm), // 16 bytes
		ends("5000000000000", "4999999999999", api.ErrOrder),
		ends("5000000000000000", "4000000000000000", api.ErrOrder),
		ends("0000000000000000001", "0000000000000000000", api.ErrOrder),

		acs("", api.ErrArg), acs("!", api.OK), acs("~", api.OK), acs("a~!0", api.OK),
		acs(" ", api.ErrArg), acs("a b", api.ErrArg), acs("\x7f", api.ErrArg), acs("é", api.ErrArg), acs("a\n", api.ErrArg), acs("\x00a", api.ErrArg),

		versions("2.1.0", "2.1.0", api.OK), versions("0.0.0", "65535.65535.65535", api.OK), versions("3.0.0", "4.0.0", api.OK), versions("2.9.0", "2.10.0", api.OK),
		versions("2.2.0", "2.1.0", api.ErrRange), versions("2.10.0", "2.9.0", api.ErrRange), versions("2.1.1", "2.1.0", api.ErrRange),
		versions("", "2.1.0", api.ErrRange), versions("2.1.0", "", api.ErrRange), versions("", "", api.ErrRange),
		versions("2.1", "2.2.0", api.ErrRange), versions("2.1.0", "2.2", api.ErrRange), versions("2.01.0", "2.2.0", api.ErrRange), versions("2.1.0", "2.02.0", api.ErrRange),
		versions("2.1.0", "2.1.65536", api.ErrRange), versions("x", "x", api.ErrRange), versions("2.1.0 ", "2.1.0 ", api.ErrRange),

		mode(1, api.OK), mode(2, api.OK), mode(3, api.OK), mode(0, api.ErrKind), mode(4, api.ErrKind), mode(-1, api.ErrKind),
		mode(257, api.ErrKind), mode(1<<32+1, api.ErrKind), mode(math.MinInt, api.ErrKind), mode(math.MaxInt, api.ErrKind),
	}
	for n := range 30 {
		want := api.OK
		if n < 13 || n > 19 {
			want = api.ErrForm
		}
		l = append(l, ends(strings.Repeat("4", n), strings.Repeat("5", n), want))
	}
	for n := range 40 {
		want := api.OK
		if n < 1 || n > 32 {
			want = api.ErrArg
		}
		l = append(l, acs(strings.Repeat("x", n), want))
	}
	for b := range 256 {
		want := api.OK
		if b < 33 || b > 126 {
			want = api.ErrArg
		}
		letter := string([]byte{byte(b)})
		l = append(l, acs(letter, want), acs("x"+letter, want), acs(letter+"x", want))
	}
	for _, c := range l {
		r := between("4000000000000", "4999999999999")
		c.do(&r)
		if got := r.Check(); got != c.err {
			t.Errorf("%.200v: Check() = %v, wanted %v", r, got, c.err)
		}
	}
}

// faults are changes, each by another error, in the order in which the errors
// are told.
var faults = []change{
	{func(r *ranges.Range) { r.To += "0" }, api.ErrForm},
	{func(r *ranges.Range) { r.From, r.To = "2"+r.From[1:], "1"+r.To[1:] }, api.ErrOrder},
	{func(r *ranges.Range) { r.ACS = "" }, api.ErrArg},
	{func(r *ranges.Range) { r.Low = "2.3.0" }, api.ErrRange},
	{func(r *ranges.Range) { r.Mode = 0 }, api.ErrKind},
}

// P18.1: of several faults the first one is told.
func TestCheckOrder(t *testing.T) {
	for set := range 1 << len(faults) {
		r, want := between("4000000000000", "4999999999999"), api.OK
		for i := len(faults) - 1; i >= 0; i-- {
			if set>>i&1 == 1 {
				faults[i].do(&r)
				want = faults[i].err
			}
		}
		if got := r.Check(); got != want {
			t.Errorf("%v: Check() = %v, wanted %v", r, got, want)
		}
	}
}

// P18.1: cards' numbers, by how many digits, then digit by digit.
func TestCmp(t *testing.T) {
	rising := []string{
		"", "\x00", "/", "0", "5", "9", ":", "a", "\xff", "/9", "00", "01", "09", "10", "99", "a0", "aa", "\xff\x00", "000", "400",
		"0000000000000", "0999999999999", "4000000000000", "4000000000001", "4000000000010", "4999999999999", "5000000000000", "9999999999999", "999999999999a",
		"00000000000000", "00000000000001", "40000000000000", "99999999999999", "0000000000000000", "4111111111111111",
		"0000000000000000000", "9999999999999999998", "9999999999999999999", "00000000000000000000", strings.Repeat("0", 1000), strings.Repeat("9", 1000),
	}
	for i, a := range rising {
		for k, b := range rising {
			want := 0
			if i < k {
				want = -1
			} else if i > k {
				want = 1
			}
			if got := ranges.Cmp(a, b); got != want {
				t.Errorf("Cmp(%.30q, %.30q) = %d, wanted %d", a, b, got, want)
			}
		}
	}
}

// P18.1: is a card in a range?
func TestHas(t *testing.T) {
	one := "4111111111111111"
	for _, c := range []struct {
		from, to string
		in, out  []string
	}{
		{one, one, []string{one}, []string{
			"4111111111111110", "4111111111111112", "411111111111111", "41111111111111111", "04111111111111111", one + " ", " " + one, one + "\n", "", "4111 1111 1111 1111"}},
		{"4000000000000", "4999999999999",
			[]string{"4000000000000", "4000000000001", "4500000000000", "4999999999998", "4999999999999"},
			[]string{"3999999999999", "5000000000000", "0000000000000", "9999999999999", "40000000000000", "45000000000000", "400000000000", "450000000000", "04500000000000", "450000000000a", "4a00000000000", "45000000000.0", "4500000000/00", "4500000000:00", "+450000000000", "-450000000000", "", "4"}},
		{"0000000000000", "0000000000009", []string{"0000000000000", "0000000000005", "0000000000009"},
			[]string{"", "0", "5", "000000000005", "00000000000005", "0000000000010", "\x00000000000000"}},
		{"0000000000000000000", "9999999999999999999", []string{"0000000000000000000", "9999999999999999999", "0411111111111111111"}, []string{"00000000000000000000", "999999999999999999", one}},
		{"", "", nil, []string{"", "0", one}},
	} {
		r := between(c.from, c.to)
		for _, card := range c.in {
			if !r.Has(card) {
				t.Errorf("from %s to %s there is no %q", r.From, r.To, card)
			}
		}
		for _, card := range c.out {
			if r.Has(card) {
				t.Errorf("from %s to %s there is %q", r.From, r.To, card)
			}
		}
	}
	// It hangs on both ends alone, be the rest as it may.
	if !(ranges.Range{From: one, To: one}).Has(one) || (ranges.Range{}).Has("") || (ranges.Range{To: one}).Has(one) || (ranges.Range{From: one}).Has(one) {
		t.Error("Has of a range that lacks something")
	}
}

// P18.2: the table of ranges, however they come: by rising numbers of digits,
// and by rising ends.
func TestNew(t *testing.T) {
	rising := []ranges.Range{
		between("0000000000000", "0000000000000"),
		between("0000000000001", "0399999999999"),
		between("4000000000000", "4999999999999"),
		between("5000000000000", "9999999999999"),
		between("00000000000000", "99999999999999"),
		between("0000000000000000", "0000000000000009"),
		between("4111111111111111", "4111111111111111"),
		between("0000000000000000000", "0000000000000000000"),
		between("9999999999999999999", "9999999999999999999"),
	}
	for i := range rising { // unlike in all
		rising[i].ACS = "acs-" + strconv.Itoa(i)
		rising[i].Mode = 1 + i%3
	}
	want := made(t, rising...)
	is(t, "New", want, api.OK, rising, api.OK)
	r := rand.New(rand.NewPCG(18, 2))
	for range 500 {
		l := slices.Clone(rising)
		r.Shuffle(len(l), func(i, k int) { l[i], l[k] = l[k], l[i] })
		if x, err := ranges.New(l...); err != api.OK || !ranges.Same(x, want) || !slices.Equal(list(t, x), rising) {
			t.Fatalf("New of %v: %v, %v", l, list(t, x), err)
		}
	}
	x, err := ranges.New()
	is(t, "New of none", x, err, nil, api.OK)
	if !ranges.Same(x, ranges.Table{}) {
		t.Error("the table of no ranges isn't the zero one")
	}
	// The first error, one behind the other.
	bad := between("1", "2")
	over := between("4999999999999", "5000000000000")
	for _, c := range []struct {
		l    []ranges.Range
		want api.Errno
	}{
		{[]ranges.Range{bad}, api.ErrForm},
		{append(slices.Clone(rising), bad, over), api.ErrForm},
		{append(slices.Clone(rising), over, bad), api.ErrThere},
		{[]ranges.Range{rising[0], rising[0]}, api.ErrThere},
		{[]ranges.Range{over, rising[2]}, api.ErrThere},
		{[]ranges.Range{{}}, api.ErrForm},
	} {
		x, err := ranges.New(c.l...)
		is(t, "New with a fault", x, err, nil, c.want)
	}
}

// P18.2: two that aren't apart, in whichever order; and such as only just are.
func TestApart(t *testing.T) {
	for _, c := range []struct {
		a, b ranges.Range
		want api.Errno
	}{
		{between("4000000000000", "4999999999999"), between("4000000000000", "4999999999999"), api.ErrThere},
		{between("4000000000000", "4999999999999"), between("4000000000000", "4000000000000"), api.ErrThere},
		{between("4000000000000", "4999999999999"), between("4999999999999", "4999999999999"), api.ErrThere},
		{between("4000000000000", "4999999999999"), between("4500000000000", "4500000000001"), api.ErrThere},
		{between("4000000000000", "4999999999999"), between("4999999999999", "5000000000000"), api.ErrThere},
		{between("4000000000000", "4999999999999"), between("3999999999999", "4000000000000"), api.ErrThere},
		{between("4000000000000", "4999999999999"), between("3999999999999", "5000000000000"), api.ErrThere},
		{between("4000000000000", "4000000000000"), between("4000000000000", "4000000000000"), api.ErrThere},
		{between("4000000000000", "4999999999999"), between("5000000000000", "5000000000000"), api.OK},
		{between("4000000000000", "4999999999999"), between("3000000000000", "3999999999999"), api.OK},
		{between("4000000000000", "4000000000000"), between("4000000000001", "4000000000001"), api.OK},
		// Unlike numbers of digits:
		{between("0000000000000", "9999999999999"), between("00000000000000", "99999999999999"), api.OK},
		{between("4000000000000", "4999999999999"), between("04000000000000", "04999999999999"), api.OK},
		{between("4000000000000", "4999999999999"), between("40000000000000", "49999999999999"), api.OK},
		{between("0000000000000000000", "9999999999999999999"), between("0000000000000", "9999999999999"), api.OK},
	} {
		b := c.b
		b.ACS, b.Low, b.High, b.Mode = "other", "3.0.0", "4.0.0", ranges.Off // they count for nothing
		for _, l := range [][]ranges.Range{{c.a, b}, {b, c.a}} {
			x, err := ranges.New(l...)
			want := slices.Clone(l)
			slices.SortFunc(want, func(a, b ranges.Range) int { return ranges.Cmp(a.From, b.From) })
			is(t, "New", x, err, want, c.want)
			x, err = made(t, l[0]).Add(l[1])
			is(t, "Add", x, err, want, c.want)
		}
	}
}

// full gives as many ranges as a table may have, rising, with room between.
func full() []ranges.Range {
	var out []ranges.Range
	for i := range api.MaxRanges {
		from := "4000000000" + strconv.Itoa(100+i) + "000"
		out = append(out, between(from, from[:13]+"499"))
	}
	return out
}

// P18.2: no more than there may be.
func TestMany(t *testing.T) {
	l := full()
	x := made(t, l...)
	is(t, "New of 64", x, api.OK, l, api.OK)
	apart := between("5000000000000", "5000000000000")
	bad := apart
	bad.Mode = 0
	for _, c := range []struct {
		r    ranges.Range
		want api.Errno
	}{
		{apart, api.ErrMany},
		{l[0], api.ErrMany}, // ahead of ErrThere
		{bad, api.ErrKind},  // ahead of both
	} {
		y, err := x.Add(c.r)
		is(t, "the 65th", y, err, nil, c.want)
		y, err = ranges.New(append(slices.Clone(l), c.r)...)
		is(t, "New of 65", y, err, nil, c.want)
	}
	// One goes, or is turned: there are no more.
	other := l[9]
	other.ACS = "other"
	y, err := x.Turn(other)
	want := slices.Clone(l)
	want[9] = other
	is(t, "Turn of 64", y, err, want, api.OK)
	y, err = x.Drop(l[63].From)
	is(t, "Drop of 64", y, err, l[:63], api.OK)
	y, err = y.Add(apart)
	is(t, "again 64", y, err, append([]ranges.Range{apart}, l[:63]...), api.OK)
	for i, r := range l {
		if got, ok := x.Find(r.To); !ok || got != r {
			t.Errorf("Find of the %dth one's card: %v, %v", i, got, ok)
		}
		if got, ok := x.Find(r.From[:13] + "500"); ok || got != (ranges.Range{}) {
			t.Errorf("Find of a card between: %v", got)
		}
	}
	is(t, "the first one", x, api.OK, l, api.OK)
}

// P18.2: one less.
func TestDrop(t *testing.T) {
	l := []ranges.Range{between("4000000000000", "4999999999999"), between("5000000000000", "5999999999999"), between("04000000000000", "04999999999999")}
	x := made(t, l...)
	for i, r := range l {
		y, err := x.Drop(r.From)
		is(t, "Drop", y, err, slices.Delete(slices.Clone(l), i, i+1), api.OK)
		if got, ok := y.Find(r.From); ok || got != (ranges.Range{}) {
			t.Errorf("behind Drop there is %v", got)
		}
		z, err := y.Drop(r.From)
		is(t, "Drop once more", z, err, nil, api.ErrNone)
		z, err = y.Add(r)
		is(t, "there again", z, err, l, api.OK)
	}
	for _, from := range []string{"", "1", "4000000000001", "4500000000000", "4999999999999", "400000000000", "4000000000000 ", "40000000000000", "004000000000000", "6000000000000", "x", "\xff", strings.Repeat("4", 1000)} {
		y, err := x.Drop(from)
		is(t, "Drop of none", y, err, nil, api.ErrNone)
	}
	y, err := ranges.Table{}.Drop("")
	is(t, "Drop of the zero table", y, err, nil, api.ErrNone)
	y, err = made(t, l[0]).Drop(l[0].From)
	is(t, "Drop of the last one", y, err, nil, api.OK)
	if !ranges.Same(y, ranges.Table{}) {
		t.Error("without its last range a table isn't the zero one")
	}
}

// P18.2: one in place of another.
func TestTurn(t *testing.T) {
	l := []ranges.Range{between("4000000000000", "4499999999999"), between("4500000000000", "4500000000000"), between("5000000000000", "5999999999999")}
	x := made(t, l...)
	for _, c := range []struct {
		r    ranges.Range
		at   int
		want api.Errno
	}{
		{l[0], 0, api.OK}, // as it was
		{between("4000000000000", "4000000000000"), 0, api.OK},
		{between("4500000000000", "4999999999999"), 1, api.OK},
		{between("5000000000000", "9999999999999"), 2, api.OK},
		{between("4000000000000", "4500000000000"), 0, api.ErrThere},
		{between("4000000000000", "9999999999999"), 0, api.ErrThere},
		{between("4500000000000", "5000000000000"), 1, api.ErrThere},
		{between("4500000000000", "4400000000000"), 1, api.ErrOrder},
		{between("5000000000000", ""), 2, api.ErrForm},
		{between("3000000000000", "3999999999999"), 0, api.ErrNone},
		{between("4000000000001", "4000000000001"), 0, api.ErrNone}, // ahead of ErrThere
		{between("4000000000001", "4000000000000"), 0, api.ErrNone}, // ahead of Check's
		{between("04000000000000", "04499999999999"), 0, api.ErrNone},
		{ranges.Range{}, 0, api.ErrNone},
	} {
		r := c.r
		r.ACS, r.Low, r.High, r.Mode = "other", "1.0.0", "1.0.0", ranges.Attempts
		if c.want == api.ErrNone {
			r.Mode = 0
		}
		want := slices.Clone(l)
		want[c.at] = r
		y, err := x.Turn(r)
		is(t, "Turn of "+r.From+" to "+r.To, y, err, want, c.want)
		is(t, "the table ahead of it", x, api.OK, l, api.OK)
	}
	for i, f := range faults { // Check's errors, ahead of ErrThere
		if f.err == api.ErrOrder {
			continue // which turns From
		}
		r := between("4000000000000", "9999999999999")
		f.do(&r)
		y, err := x.Turn(r)
		is(t, "Turn by fault "+strconv.Itoa(i), y, err, nil, f.err)
	}
	y, err := ranges.Table{}.Turn(l[0])
	is(t, "Turn in the zero table", y, err, nil, api.ErrNone)
}

// P18.2: the error that is told first.
func TestAddOrder(t *testing.T) {
	x := made(t, between("1000000000000", "4999999999999"))
	for set := range 1 << len(faults) {
		r, want := between("4000000000000", "4999999999999"), api.ErrThere
		for i := len(faults) - 1; i >= 0; i-- {
			if set>>i&1 == 1 {
				faults[i].do(&r)
				want = faults[i].err
			}
		}
		y, err := x.Add(r)
		is(t, "Add", y, err, nil, want)
	}
}

// P18.2: the range that has a card.
func TestFind(t *testing.T) {
	a, b, c := between("4000000000000", "4999999999999"), between("5000000000000", "5000000000000"), between("4000000000000000", "4999999999999999")
	x := made(t, b, c, a)
	for card, want := range map[string]ranges.Range{
		"4000000000000": a, "4999999999999": a, "4111111111111": a,
		"5000000000000":    b,
		"4000000000000000": c, "4999999999999999": c, "4111111111111111": c,
		"3999999999999": {}, "5000000000001": {}, "9999999999999": {}, "0000000000000": {},
		"3999999999999999": {}, "5000000000000000": {}, "411111111111111": {}, "41111111111111": {}, "41111111111111111": {}, "411111111111": {},
		"": {}, "x": {}, "411111111111a": {}, "4111111111111 ": {}, "\xff": {}, strings.Repeat("4", 1000): {},
	} {
		if got, ok := x.Find(card); got != want || ok != (want != ranges.Range{}) {
			t.Errorf("Find(%.30q) = %v, %v", card, got, ok)
		}
		if got, ok := (ranges.Table{}).Find(card); ok || got != (ranges.Range{}) {
			t.Errorf("Find(%.30q) in the zero table = %v, %v", card, got, ok)
		}
	}
}

// P18.2: what the ranges are gone through by, as often and as far as one
// likes.
func TestAll(t *testing.T) {
	l := full()[:5]
	x := made(t, l...)
	seq := x.All()
	for range 2 {
		if got := maps.Collect(seq); len(got) != 5 || got[0] != l[0] || got[4] != l[4] {
			t.Errorf("All() goes through %v", got)
		}
	}
	for stop := range 5 {
		count := 0
		for i := range seq {
			if count++; i == stop {
				break
			}
		}
		if count != stop+1 {
			t.Errorf("All() left at %d: %d of them", stop, count)
		}
	}
	for range (ranges.Table{}).All() {
		t.Error("the zero table has a range")
	}
}

// P18.2: have two the same ranges?
func TestSame(t *testing.T) {
	l := full()[:4]
	x := made(t, l...)
	if !ranges.Same(x, x) || !ranges.Same(x, made(t, l...)) || !ranges.Same(ranges.Table{}, ranges.Table{}) {
		t.Error("a table isn't the same as itself")
	}
	for _, turn := range []func(r *ranges.Range){
		func(r *ranges.Range) { r.From = r.From[:15] + "1" },
		func(r *ranges.Range) { r.To = r.To[:15] + "8" },
		func(r *ranges.Range) { r.ACS = "ACS" },
		func(r *ranges.Range) { r.Low = "2.0.9" },
		func(r *ranges.Range) { r.High = "2.2.1" },
		func(r *ranges.Range) { r.Mode = ranges.Off },
	} {
		for i := range l {
			other := slices.Clone(l)
			turn(&other[i])
			if y := made(t, other...); ranges.Same(x, y) || ranges.Same(y, x) {
				t.Errorf("%v is the same as %v", l, other)
			}
		}
	}
	for n := range 4 {
		if y := made(t, l[:n]...); ranges.Same(x, y) || ranges.Same(y, x) {
			t.Errorf("%d ranges are the same as 4", n)
		}
		if y := made(t, l[n+1:]...); ranges.Same(x, y) || ranges.Same(y, x) {
			t.Errorf("%d ranges are the same as 4", 3-n)
		}
	}
}

// P18.2: a table stays as it was, whatever is made of it; what is handed in
// isn't kept, nor changed.
func TestStays(t *testing.T) {
	l := full()
	room := slices.Clone(l[10:20])
	slices.Reverse(room)
	kept := slices.Clone(room)
	x := made(t, room[:7]...)
	want := list(t, x)
	if !slices.Equal(room, kept) {
		t.Error("New changes what is handed in")
	}
	clear(room)
	is(t, "behind a change of what was handed in", x, api.OK, want, api.OK)
	// Two of one table, of which none shares the other's room.
	a, _ := x.Add(l[0])
	b, _ := x.Add(l[1])
	c, _ := x.Add(l[30])
	d, _ := x.Add(l[31])
	e, _ := x.Drop(want[0].From)
	f, _ := x.Drop(want[3].From)
	g, _ := f.Add(l[40])
	h, _ := f.Add(l[41])
	other := want[2]
	other.ACS = "other"
	i, _ := x.Turn(other)
	with := func(at int, r ranges.Range) []ranges.Range { return slices.Insert(slices.Clone(want), at, r) }
	without := slices.Delete(slices.Clone(want), 3, 4)
	is(t, "the table", x, api.OK, want, api.OK)
	is(t, "a", a, api.OK, with(0, l[0]), api.OK)
	is(t, "b", b, api.OK, with(0, l[1]), api.OK)
	is(t, "c", c, api.OK, with(7, l[30]), api.OK)
	is(t, "d", d, api.OK, with(7, l[31]), api.OK)
	is(t, "e", e, api.OK, want[1:], api.OK)
	is(t, "f", f, api.OK, without, api.OK)
	is(t, "g", g, api.OK, append(slices.Clone(without), l[40]), api.OK)
	is(t, "h", h, api.OK, append(slices.Clone(without), l[41]), api.OK)
	is(t, "i", i, api.OK, slices.Concat(want[:2], []ranges.Range{other}, want[3:]), api.OK)
	seq := x.All()
	if y, err := x.Add(l[2]); err != api.OK || y.Len() != 8 {
		t.Errorf("Add: %v", err)
	}
	if got := maps.Collect(seq); len(got) != 7 {
		t.Errorf("All() goes through %d ranges", len(got))
	}
}

// model is a second table: its ranges by their From.
type model map[string]ranges.Range

var (
	card    = regexp.MustCompile(`\A[0-9]{13,19}\z`)
	named   = regexp.MustCompile(`\A[!-~]{1,32}\z`)
	numbers = regexp.MustCompile(`\A(0|[1-9][0-9]*)\.(0|[1-9][0-9]*)\.(0|[1-9][0-9]*)\z`)
)

// release gives a version as a number of base 2^16; below 0 there is none.
func release(s string) int64 {
	parts := numbers.FindStringSubmatch(s)
	if parts == nil {
		return -1
	}
	sum := int64(0)
	for _, part := range parts[1:] {
		n, err := strconv.ParseUint(part, 10, 16)
		if err != nil {
			return -1
		}
		sum = sum<<16 + int64(n)
	}
	return sum
}

func value(s string) *big.Int {
	n, _ := new(big.Int).SetString(s, 10)
	return n
}

// fault tells in another way why a range may not be.
func fault(r ranges.Range) api.Errno {
	if !card.MatchString(r.From) || !card.MatchString(r.To) || len(r.From) != len(r.To) {
		return api.ErrForm
	}
	if value(r.To).Cmp(value(r.From)) < 0 {
		return api.ErrOrder
	}
	if !named.MatchString(r.ACS) {
		return api.ErrArg
	}
	if low, high := release(r.Low), release(r.High); low < 0 || high < 0 || low > high {
		return api.ErrRange
	}
	if r.Mode < 1 || r.Mode > 3 {
		return api.ErrKind
	}
	return api.OK
}

// has tells in another way whether a card is in a range that may be.
func has(r ranges.Range, s string) bool {
	return card.MatchString(s) && len(s) == len(r.From) && value(r.From).Cmp(value(s)) <= 0 && value(s).Cmp(value(r.To)) <= 0
}

// meets tells whether one of the ranges shares a card with this one; the
// first card of the one is in the other then.
func (m model) meets(r ranges.Range) bool {
	for _, other := range m {
		if has(other, r.From) || has(r, other.From) {
			return true
		}
	}
	return false
}

func (m model) with(r ranges.Range) model {
	out := maps.Clone(m)
	out[r.From] = r
	return out
}

func (m model) without(from string) model {
	out := maps.Clone(m)
	delete(out, from)
	return out
}

func (m model) add(r ranges.Range) (model, api.Errno) {
	switch err := fault(r); {
	case err != api.OK:
		return nil, err
	case len(m) >= 64:
		return nil, api.ErrMany
	case m.meets(r):
		return nil, api.ErrThere
	}
	return m.with(r), api.OK
}

func (m model) drop(from string) (model, api.Errno) {
	if _, ok := m[from]; !ok {
		return nil, api.ErrNone
	}
	return m.without(from), api.OK
}

func (m model) turn(r ranges.Range) (model, api.Errno) {
	if _, ok := m[r.From]; !ok {
		return nil, api.ErrNone
	}
	if err := fault(r); err != api.OK {
		return nil, err
	}
	if m.without(r.From).meets(r) {
		return nil, api.ErrThere
	}
	return m.with(r), api.OK
}

// sorted gives the ranges as a table should have them.
func (m model) sorted() []ranges.Range {
	return slices.SortedFunc(maps.Values(m), func(a, b ranges.Range) int {
		if len(a.From) != len(b.From) {
			return len(a.From) - len(b.From)
		}
		return value(a.From).Cmp(value(b.From))
	})
}

// near gives a card's number out of few: short ones, with noughts ahead, or
// none at all.
func near(r *rand.Rand, span int) string {
	s := strconv.Itoa(r.IntN(span))
	width := 13 + r.IntN(2)*r.IntN(7)
	if r.IntN(40) == 0 {
		return s
	}
	return strings.Repeat("0", width-len(s)) + s
}

// someRange gives one of few ranges, now and then one that may not be.
func someRange(r *rand.Rand, span, wide int) ranges.Range {
	from := near(r, span)
	n, _ := strconv.Atoi(from)
	to := strconv.Itoa(max(n+r.IntN(wide)-r.IntN(20)/19*3, 0))
	to = strings.Repeat("0", max(len(from)-len(to), 0)) + to
	out := ranges.Range{From: from, To: to, ACS: "acs" + strconv.Itoa(r.IntN(3)), Low: "2.1.0", High: "2.2.0", Mode: 1 + r.IntN(3)}
	if r.IntN(30) == 0 {
		faults[2+r.IntN(3)].do(&out)
	}
	return out
}

// P18.2 and P18.3: tables that are changed by chance, step by step, against
// second ones; no step changes the table ahead of it, and no card is in two
// ranges.
func TestSteps(t *testing.T) {
	r := rand.New(rand.NewPCG(18, 3))
	met := map[api.Errno]int{}
	for round := range 60 {
		span, wide := 30+round*20, 1+round%7
		x, m := ranges.Table{}, model{}
		for range 300 {
			y, n, err, want := step(r, x, m, span, wide)
			met[err]++
			if err != want {
				t.Fatalf("%v, wanted %v", err, want)
			}
			if got := list(t, y); !slices.Equal(got, n.sorted()) {
				t.Fatalf("%v, wanted %v", got, n.sorted())
			}
			if got := list(t, x); !slices.Equal(got, m.sorted()) {
				t.Fatalf("the table ahead has become %v", got)
			}
			if err == api.OK {
				x, m = y, n
			}
			found(t, x, m, near(r, span))
		}
		l := list(t, x)
		r.Shuffle(len(l), func(i, k int) { l[i], l[k] = l[k], l[i] })
		if again := made(t, l...); !ranges.Same(again, x) {
			t.Fatalf("New of %v: %v", l, list(t, again))
		}
	}
	for _, err := range []api.Errno{api.OK, api.ErrForm, api.ErrOrder, api.ErrArg, api.ErrRange, api.ErrKind, api.ErrMany, api.ErrThere, api.ErrNone} {
		if met[err] < 10 {
			t.Errorf("%v was met %d times", err, met[err])
		}
	}
}

// step does one of the changes to both.
func step(r *rand.Rand, x ranges.Table, m model, span, wide int) (y ranges.Table, n model, err, want api.Errno) {
	c := someRange(r, span, wide)
	if l := m.sorted(); len(l) > 0 && r.IntN(2) == 0 {
		c.From = l[r.IntN(len(l))].From
	}
	switch r.IntN(8) {
	case 0:
		y, err = x.Drop(c.From)
		n, want = m.drop(c.From)
	case 1, 2:
		y, err = x.Turn(c)
		n, want = m.turn(c)
	default:
		y, err = x.Add(c)
		n, want = m.add(c)
	}
	return y, n, err, want
}

// found holds Find against all ranges that have the card: there is one at
// most.
func found(t *testing.T, x ranges.Table, m model, card string) {
	t.Helper()
	count, want := 0, ranges.Range{}
	for _, c := range x.All() {
		if c.Has(card) {
			count++
		}
		if has(c, card) != c.Has(card) {
			t.Fatalf("%v: Has(%q) = %v", c, card, c.Has(card))
		}
	}
	for _, c := range m {
		if has(c, card) {
			want = c
		}
	}
	if got, ok := x.Find(card); got != want || ok != (count == 1) || count > 1 {
		t.Fatalf("Find(%q) = %v, %v; %d ranges have it, wanted %v", card, got, ok, count, want)
	}
}

// P1: every call ends and none panics, whatever is handed in; Check and Has
// have what the test finds.
func FuzzEnds(f *testing.F) {
	f.Add("4000000000000", "4999999999999", "acs", "2.1.0", "2.2.0", 1, "4111111111111")
	f.Add("", "", "", "", "", 0, "")
	f.Add("40000000000000000000", "4", " ", "2.1", "2.01.0", math.MinInt, "\xff")
	f.Add("5000000000000000", "4000000000000000", "~", "2.2.0", "2.1.0", 3, "4500000000000000")
	f.Fuzz(func(t *testing.T, from, to, acs, low, high string, mode int, card string) {
		r := ranges.Range{From: from, To: to, ACS: acs, Low: low, High: high, Mode: mode}
		want := fault(r)
		if got := r.Check(); got != want {
			t.Errorf("%v: Check() = %v, wanted %v", r, got, want)
		}
		if in := r.Has(card); want == api.OK && in != has(r, card) {
			t.Errorf("%v: Has(%q) = %v", r, card, in)
		}
		if a, b := ranges.Cmp(from, to), ranges.Cmp(to, from); a != -b || (a == 0) != (from == to) {
			t.Errorf("Cmp(%q, %q) = %d, but %d the other way round", from, to, a, b)
		}
		x, err := ranges.New(between("4000000000000", "4999999999999"), r)
		if _, wanted := (model{}).with(between("4000000000000", "4999999999999")).add(r); err != wanted {
			t.Errorf("New with %v: %v, wanted %v", r, err, wanted)
		}
		x.Find(card)
		x.Drop(card)
		x.Drop(from)
		x.Turn(r)
	})
}
