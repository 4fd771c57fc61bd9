package desk_test

import (
	"encoding/json"
	"slices"
	"strconv"
	"strings"
	"testing"

	"cashier/api"
	"cashier/desk"
	"cashier/ids"
	"cashier/message"
	"cashier/ranges"
	"cashier/serial"
)

// card gives the range of cards of that number.
func card(i int) ranges.Range {
	from := "4" + strings.Repeat("0", 12) + strconv.Itoa(100+i)
	return ranges.Range{From: from, To: from, ACS: "acs" + strconv.Itoa(i), Low: "2.1.0", High: "2.2.0", Mode: 1 + i%3}
}

// grown gives a directory to which so many changes were done, of which so many
// are ranges that came; the others turn the first one.
func grown(t testing.TB, changes, come int) (d serial.Directory) {
	t.Helper()
	for i := range changes {
		c := serial.Change{Action: "A", Range: card(i)}
		if i >= come {
			c = serial.Change{Action: "M", Range: card(0)}
			c.Range.ACS = "turned" + strconv.Itoa(i)
		}
		var err api.Errno
		if d, err = d.Do(c); err != api.OK {
			t.Fatal(err)
		}
	}
	return d
}

// paged holds a page against the changes, the number behind them, and whether
// there is one.
func paged(t testing.TB, d serial.Directory, n uint64, known bool, want []serial.Change, behind uint64, ok bool) {
	t.Helper()
	got, at, is := desk.Page(d, n, known)
	if !slices.Equal(got, want) || at != behind || is != ok {
		t.Errorf("of %d changes Page(%d, %v) = %v, %d, %v, wanted %v, %d, %v", d.Serial(), n, known, got, at, is, want, behind, ok)
	}
	if !known { // whatever number is handed in
		if got, at, is := desk.Page(d, n+1+d.Serial()/2, false); !slices.Equal(got, want) || at != behind || is != ok {
			t.Errorf("of %d changes Page(.., false) = %v, %d, %v", d.Serial(), got, at, is)
		}
	}
}

// P27.3: of what is kept the first 12 changes.
func TestPageKept(t *testing.T) {
	paged(t, serial.Directory{}, 0, true, nil, 0, true)
	paged(t, serial.Directory{}, 0, false, nil, 0, true)
	for _, changes := range []int{1, 11, 12, 13, 24, 25, 32} {
		for _, come := range []int{1, changes} {
			d := grown(t, changes, come)
			all, _ := d.Since(0)
			if len(all) != changes {
				t.Fatalf("there are %d", len(all))
			}
			for n := range changes + 1 {
				to := min(n+12, changes)
				paged(t, d, uint64(n), true, all[n:to], uint64(to), true)
			}
			paged(t, d, 0, false, all[:min(12, changes)], uint64(min(12, changes)), true)
		}
	}
}

// P27.3: of what isn't kept, or above the serial number, all ranges, where there
// are at most 12; else none.
func TestPageAll(t *testing.T) {
	for come := 1; come <= 14; come++ {
		for _, changes := range []int{14, 32, 33, 34, 40, 60} {
			d := grown(t, changes, come)
			var adds []serial.Change
			for _, r := range d.Table().All() {
				adds = append(adds, serial.Change{Action: "A", Range: r})
			}
			behind := uint64(changes)
			if come > 12 {
				adds, behind = nil, 0
			}
			for _, n := range []uint64{uint64(changes) + 1, uint64(changes) + 100, most} {
				paged(t, d, n, true, adds, behind, come <= 12)
			}
			for n := range uint64(max(0, changes-serial.Kept)) {
				paged(t, d, n, true, adds, behind, come <= 12)
			}
			if changes > serial.Kept {
				paged(t, d, 0, false, adds, behind, come <= 12)
				last, _ := d.Since(behindKept(changes))
				paged(t, d, behindKept(changes), true, last[:12], behindKept(changes)+12, true)
			}
		}
	}
	d := grown(t, 20, 1)
	for range 20 { // ranges that came and went: no range, and nothing kept
		d, _ = d.Do(serial.Change{Action: "D", Range: card(0)})
		d, _ = d.Do(serial.Change{Action: "A", Range: card(0)})
	}
	d, _ = d.Do(serial.Change{Action: "D", Range: card(0)})
	paged(t, d, 1, true, nil, d.Serial(), true)
	paged(t, d, 0, false, nil, d.Serial(), true)
}

// behindKept gives the first serial number behind which all changes are kept.
func behindKept(changes int) uint64 { return uint64(changes - serial.Kept) }

// P27.3: who follows page by page has the table of now.
func TestPagesFollow(t *testing.T) {
	for _, x := range [][2]int{{1, 1}, {12, 12}, {13, 13}, {30, 30}, {32, 5}, {45, 12}} {
		d := grown(t, x[0], x[1])
		var table ranges.Table
		n, known := uint64(0), false
		for !known || n < d.Serial() {
			l, behind, ok := desk.Page(d, n, known)
			var err api.Errno
			if table, err = serial.Follow(table, l...); err != api.OK || !ok || len(l) > 12 || behind <= n {
				t.Fatalf("of %v behind %d there are %d, %d, %v, %v", x, n, len(l), behind, ok, err)
			}
			n, known = behind, true
		}
		if !ranges.Same(table, d.Table()) || n != d.Serial() {
			t.Errorf("of %v there is another table behind %d", x, n)
		}
	}
}

// The rule of memory: a page is nobody else's.
func TestPageStays(t *testing.T) {
	for _, d := range []serial.Directory{grown(t, 20, 12), grown(t, 40, 12)} {
		before, at, _ := desk.Page(d, 0, true)
		for range 2 {
			l, _, _ := desk.Page(d, 0, true)
			for i := range l {
				l[i] = serial.Change{}
			}
			_ = append(l, serial.Change{})
		}
		paged(t, d, 0, true, before, at, true)
		paged(t, d, 12, true, func() []serial.Change { l, _, _ := desk.Page(d, 12, true); return l }(), func() uint64 { _, n, _ := desk.Page(d, 12, true); return n }(), true)
	}
}

// P27.1: a PRes in full: its fields, and the changes behind them.
func TestPReqTold(t *testing.T) {
	d := desk.Desk{Set: usual(), Now: 7, Seq: 8}
	d.Dir, _ = d.Dir.Do(serial.Change{Action: "A", Range: card(1)})
	d.Dir, _ = d.Dir.Do(serial.Change{Action: "A", Range: card(2)})
	d.Dir, _ = d.Dir.Do(serial.Change{Action: "D", Range: card(1)})
	ds := ids.Text(ids.Derive("key", "DS"))
	front := func(version, n string) string {
		return `{"messageType":"PRes","messageVersion":"` + version + `","threeDSServerTransID":"` + text(1) + `","dsTransID":"` + ds + `","serialNum":"` + n + `","cardRangeData":[`
	}
	one := `{"action":"A","from":"4000000000000101","to":"4000000000000101","acs":"acs1","low":"2.1.0","high":"2.2.0","mode":"2"}`
	two := `{"action":"A","from":"4000000000000102","to":"4000000000000102","acs":"acs2","low":"2.1.0","high":"2.2.0","mode":"3"}`
	three := `{"action":"D","from":"4000000000000101"}`
	for _, x := range []struct{ has, version, want string }{
		{"", "2.2.0", front("2.2.0", "3") + one + "," + two + "," + three + "]}"}, {"0", "2.1.0", front("2.1.0", "3") + one + "," + two + "," + three + "]}"},
		{"1", "2.2.0", front("2.2.0", "3") + two + "," + three + "]}"}, {"2", "2.2.0", front("2.2.0", "3") + three + "]}"}, {"3", "2.1.0", front("2.1.0", "3") + "]}"},
		{"4", "2.2.0", front("2.2.0", "3") + two + "]}"}, {"18446744073709551615", "2.2.0", front("2.2.0", "3") + two + "]}"},
		{"18446744073709551616", "2.2.0", front("2.2.0", "3") + one + "," + two + "," + three + "]}"}, {"99999999999999999999", "2.2.0", front("2.2.0", "3") + one + "," + two + "," + three + "]}"},
	} {
		s := wanted(1, "serialNum", x.has, "messageVersion", x.version)
		for _, l := range [][]string{nil, draws(1, 2)} {
			held(t, s, d.Take(s, l...), d, []desk.Out{{To: "3ds", Text: x.want}}, 0, nil, nil)
		}
	}
	empty := desk.Desk{Set: usual()}
	held(t, "of no ranges", empty.Take(wanted(1)), empty, []desk.Out{{To: "3ds", Text: front("2.2.0", "0") + "]}"}}, 0, nil, nil)
}

// P27.1: where there is no page: System, of no field.
func TestPReqRefused(t *testing.T) {
	about := []string{"threeDSServerTransID", text(1), "errorMessageType", "PReq"}
	d := desk.Desk{Set: usual(), Dir: grown(t, 20, 13)}
	refused(t, d, wanted(1, "serialNum", "21"), "3ds", "403", "", about...)
	refused(t, d, wanted(1, "serialNum", "18446744073709551615", "messageVersion", "2.1.0"), "3ds", "403", "", append([]string{"messageVersion", "2.1.0"}, about...)...)
	if s := d.Take(wanted(1, "serialNum", "18446744073709551616")); len(s.Outs) != 1 || !strings.Contains(s.Outs[0].Text, `"serialNum":"12"`) {
		t.Errorf("of one above all numbers there is %q", s.Outs)
	}
	d.Dir = grown(t, 33, 13)
	for _, has := range []string{"", "0", "34", "18446744073709551615", "18446744073709551616", "99999999999999999999"} {
		refused(t, d, wanted(1, "serialNum", has), "3ds", "403", "", about...)
	}
	if s := d.Take(wanted(1, "serialNum", "1")); len(s.Outs) != 1 || !strings.Contains(s.Outs[0].Text, `"serialNum":"13"`) {
		t.Errorf("of what is kept there is %q", s.Outs)
	}
}

// P27.4: the longest page there is may be, and is read as it was.
func TestPReqLongest(t *testing.T) {
	d := desk.Desk{Set: usual()}
	for i := range 12 {
		from := "999999999999999999" + strconv.Itoa(i%10)
		r := ranges.Range{From: from, To: from, ACS: strings.Repeat(`"\`, 16), Low: "65535.65535.65535", High: "65535.65535.65535", Mode: 1}
		if i >= 10 {
			r.From, r.To = strconv.Itoa(i-10)+r.From[1:], strconv.Itoa(i-10)+r.To[1:]
		}
		var err api.Errno
		if d.Dir, err = d.Dir.Do(serial.Change{Action: "A", Range: r}); err != api.OK {
			t.Fatal(err)
		}
	}
	for range 21 {
		d.Dir, _ = d.Dir.Do(serial.Change{Action: "M", Range: ranges.Range{From: "9999999999999999990", To: "9999999999999999990", ACS: strings.Repeat("\"", 32), Low: "65535.65535.65535", High: "65535.65535.65535", Mode: 3}})
	}
	for _, has := range []string{"", "0", "1", "13", "20", "33", "99"} {
		s := d.Take(wanted(1, "serialNum", has))
		if len(s.Outs) != 1 {
			t.Fatalf("there go out %d", len(s.Outs))
		}
		_, row, f := message.Parse(s.Outs[0].Text)
		var whole struct{ CardRangeData []map[string]string }
		if err := json.Unmarshal([]byte(s.Outs[0].Text), &whole); f != (message.Fault{}) || err != nil || len(row) == 0 {
			t.Errorf("of %q the page may not be: %v, %v; it has %d bytes", has, f, err, len(s.Outs[0].Text))
		}
		if n := len(whole.CardRangeData); n != 12 && has != "33" {
			t.Errorf("of %q there are %d", has, n)
		}
	}
}
