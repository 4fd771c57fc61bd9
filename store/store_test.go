package store_test

import (
	"encoding/binary"
	"fmt"
	"iter"
	"maps"
	"math"
	"math/rand/v2"
	"slices"
	"strings"
	"testing"

	"cashier/api"
	"cashier/disk"
	"cashier/log"
	"cashier/store"
)

// The form, told a second time.

func counted(s string) string {
	return string(binary.BigEndian.AppendUint32(nil, uint32(len(s)))) + s
}

func change(first, key, value string) string { return first + counted(key) + counted(value) }

// text gives the text of changes.
func text(l ...store.Change) string {
	out := "c"
	for _, c := range l {
		out += change(map[bool]string{false: "\x00", true: "\x01"}[c.Gone], c.Key, c.Value)
	}
	return out
}

// values are what is wanted to be there.
type values map[string]string

// whole gives the text of all there is.
func (v values) whole() string {
	out := "w"
	for _, key := range slices.Sorted(maps.Keys(v)) {
		out += change("\x00", key, v[key])
	}
	return out
}

// behind gives what is there behind the changes.
func (v values) behind(l ...store.Change) values {
	out := maps.Clone(v)
	if out == nil {
		out = values{}
	}
	for _, c := range l {
		if out[c.Key] = c.Value; c.Gone {
			delete(out, c.Key)
		}
	}
	return out
}

// patterned gives n bytes that aren't all alike.
func patterned(n int) string {
	b := make([]byte, n)
	for i := range b {
		b[i] = byte(i*167 + i>>8*31 + 5)
	}
	return string(b)
}

// is holds an error against the one that is wanted.
func is(t *testing.T, what string, got, want api.Errno) {
	t.Helper()
	if got != want {
		t.Errorf("%s: %v, wanted %v", what, got, want)
	}
}

// made gives a new disk of so many sectors, on whose log the texts are.
func made(t *testing.T, sectors int, texts ...string) *disk.Disk {
	t.Helper()
	d, err := disk.New(sectors)
	is(t, "New", err, api.OK)
	l, _, err := log.Open(d)
	is(t, "the log's Open", err, api.OK)
	for _, s := range texts {
		is(t, "the log's Add", l.Add(s), api.OK)
	}
	return d
}

// logged holds a disk's log against the texts that are wanted.
func logged(t *testing.T, d *disk.Disk, want ...string) {
	t.Helper()
	steps := d.Steps()
	if _, texts, err := log.Open(d); err != api.OK || !slices.Equal(texts, want) || d.Steps() != steps {
		t.Fatalf("the log has %.80q, %v; wanted %.80q", texts, err, want)
	}
}

// rows gives what is gone through.
func rows(t *testing.T, seq iter.Seq2[string, string]) ([]string, values) {
	t.Helper()
	var keys []string
	v := values{}
	for key, value := range seq {
		keys = append(keys, key)
		v[key] = value
	}
	if !slices.IsSorted(keys) || len(keys) != len(v) {
		t.Fatalf("keys don't rise: %q", keys)
	}
	return keys, v
}

// has holds a store against what is wanted to be there.
func has(t *testing.T, s *store.Store, want values) {
	t.Helper()
	if _, got := rows(t, s.Keys("")); !maps.Equal(got, want) || s.Len() != len(want) {
		t.Fatalf("there are %d: %.80q, wanted %.80q", s.Len(), got, want)
	}
	for key, value := range want {
		if got, ok := s.Get(key); got != value || !ok {
			t.Fatalf("Get(%q) = %q, %v", key, got, ok)
		}
	}
	for _, key := range []string{"", "none", "a\x00", strings.Repeat("k", 65)} {
		if _, there := want[key]; there {
			continue
		}
		if got, ok := s.Get(key); got != "" || ok {
			t.Fatalf("Get(%q) = %q, %v", key, got, ok)
		}
	}
}

// opened opens a disk, of which just that is wanted.
func opened(t *testing.T, d *disk.Disk, want values) *store.Store {
	t.Helper()
	s, err := store.Open(d)
	if s == nil || err != api.OK {
		t.Fatalf("Open: %v, %v", s, err)
	}
	is(t, "Err", s.Err(), api.OK)
	has(t, s, want)
	return s
}

// closed opens a disk, from which only that error is wanted.
func closed(t *testing.T, what string, d *disk.Disk, want api.Errno) {
	t.Helper()
	if s, err := store.Open(d); s != nil || err != want {
		t.Errorf("Open, %s: %v, %v, wanted %v", what, s, err, want)
	}
}

// P13.2: changes.
func TestPutDrop(t *testing.T) {
	for _, key := range []string{"", "a", strings.Repeat("k", 65)} {
		for _, value := range []string{"", "1", patterned(1025)} {
			if got := store.Put(key, value); got != (store.Change{Key: key, Value: value}) {
				t.Errorf("Put(%q, %q) = %v", key, value, got)
			}
		}
		if got := store.Drop(key); got != (store.Change{Key: key, Gone: true}) {
			t.Errorf("Drop(%q) = %v", key, got)
		}
	}
}

// lists are changes, some of which may not be.
func lists() [][]store.Change {
	return [][]store.Change{
		nil,
		{},
		{store.Put("a", "1")},
		{store.Drop("a")},
		{store.Put("a", "")},
		{store.Put("b", "2"), store.Drop("a"), store.Put("a", "1"), store.Put("b", "3")},
		{store.Put("\x00\xff", "\xff\x00c")},
		{store.Put(strings.Repeat("k", 64), patterned(1024)), store.Put("k", patterned(256))},
		{{Key: "a", Value: "as it is", Gone: true}},
		{store.Put("", "x"), store.Drop("")},
		{store.Put(strings.Repeat("k", 65), patterned(1025)), store.Put(patterned(300), patterned(70000))},
	}
}

// P13.1: the text of changes.
func TestText(t *testing.T) {
	want := "c" +
		"\x00\x00\x00\x00\x01a\x00\x00\x00\x0212" +
		"\x01\x00\x00\x00\x02bc\x00\x00\x00\x00" +
		"\x01\x00\x00\x00\x01d\x00\x00\x00\x01x"
	if got := store.Text(store.Put("a", "12"), store.Drop("bc"), store.Change{Key: "d", Value: "x", Gone: true}); got != want {
		t.Errorf("Text = %q", got)
	}
	if got := store.Text(); got != "c" {
		t.Errorf("Text() = %q", got)
	}
	for _, l := range lists() {
		room := append(slices.Clone(l), store.Put("room", "room"))
		if got := store.Text(room[:len(l)]...); got != text(l...) {
			t.Errorf("Text(%.80v) = %.80q", l, got)
		}
		if !slices.Equal(room, append(slices.Clone(l), store.Put("room", "room"))) {
			t.Errorf("Text changes what is handed in: %.80v", room)
		}
	}
}

// parses holds Parse against what is wanted.
func parses(t *testing.T, s string, want []store.Change, whole bool) {
	t.Helper()
	if got, all, err := store.Parse(s); !slices.Equal(got, want) || all != whole || err != api.OK {
		t.Errorf("Parse(%.80q) = %.80v, %v, %v", s, got, all, err)
	}
}

// refused holds Parse against ErrForm.
func refused(t *testing.T, what, s string) {
	t.Helper()
	if got, all, err := store.Parse(s); len(got) != 0 || all || err != api.ErrForm {
		t.Errorf("Parse(%.80q), %s: %.80v, %v, %v", s, what, got, all, err)
	}
}

// P13.1: the changes of a text.
func TestParse(t *testing.T) {
	for _, l := range lists() {
		parses(t, text(l...), l, false)
	}
	var many []store.Change
	for i := range 3000 { // a text may have more than 16384 bytes
		many = append(many, store.Put(fmt.Sprintf("%04d", i), patterned(i%9)))
	}
	parses(t, text(many...), many, false)
	parses(t, "w"+text(many...)[1:], many, true)
	// Each list is new memory.
	first, _, _ := store.Parse(text(many...))
	second, _, _ := store.Parse(text(many...))
	first[0] = store.Drop("other")
	if second[0] != many[0] {
		t.Error("two answers share memory")
	}
}

// P13.1: of all there is.
func TestParseWhole(t *testing.T) {
	for _, l := range [][]store.Change{
		nil,
		{store.Put("a", "1")},
		{store.Put("a", "2"), store.Put("a\x00", "1"), store.Put("aa", ""), store.Put("b", "0")},
		{store.Put("\x7f", ""), store.Put("\x80", ""), store.Put("\xff", ""), store.Put("\xff\x00", "")},
		{store.Put("9", "x"), store.Put("A", "x"), store.Put("a", "x")},
		{store.Put(strings.Repeat("k", 64), patterned(1024)), store.Put("l", "")},
	} {
		parses(t, "w"+text(l...)[1:], l, true)
	}
	a, b, gone := change("\x00", "a", "1"), change("\x00", "b", "1"), change("\x01", "c", "")
	refused(t, "keys that fall", "w"+b+a)
	refused(t, "keys that fall, later", "w"+a+change("\x00", "c", "1")+b)
	refused(t, "a key twice", "w"+a+a)
	refused(t, "a key twice, with another value", "w"+a+change("\x00", "a", "2"))
	refused(t, "a longer one ahead of its front", "w"+change("\x00", "ab", "")+a)
	refused(t, "bytes that fall", "w"+change("\x00", "\x80", "")+change("\x00", "\x7f", ""))
	refused(t, "a longer key ahead of a higher one", "w"+change("\x00", "b", "")+change("\x00", "aaa", ""))
	refused(t, "one that is Gone", "w"+gone)
	refused(t, "one that is Gone behind others", "w"+a+b+gone)
	refused(t, "one that is Gone, with a value", "w"+change("\x01", "c", "1"))
}

// P13.1: texts that are neither's.
func TestParseForm(t *testing.T) {
	one := change("\x00", "a", "1")
	for _, s := range []string{"", "x", "C", "W", "\x00", "\xff", "v", "d", "b", one, "cc", "ww", "cw", "wc", "xc"} {
		refused(t, "another mark", s)
		refused(t, "another mark", s+one[min(1, len(s)):])
	}
	for first := 2; first < 256; first++ {
		for _, mark := range []string{"c", "w"} {
			refused(t, "another byte ahead", mark+change(string([]byte{byte(first)}), "a", ""))
			refused(t, "another byte ahead", mark+one+change(string([]byte{byte(first)}), "b", ""))
		}
	}
	for _, mark := range []string{"c", "w"} {
		refused(t, "a key too short", mark+"\x00\x00\x00\x00\x02a")
		refused(t, "a key as long as may be", mark+"\x00\xff\xff\xff\xffa\x00\x00\x00\x00")
		refused(t, "a key's length below 0, as an int", mark+"\x00\x80\x00\x00\x00a\x00\x00\x00\x00")
		refused(t, "a value too short", mark+"\x00\x00\x00\x00\x01a\x00\x00\x00\x021")
		refused(t, "a value as long as may be", mark+"\x00\x00\x00\x00\x01a\xff\xff\xff\xff1")
		refused(t, "lengths the lowest byte ahead", mark+"\x00\x01\x00\x00\x00a\x01\x00\x00\x001")
		refused(t, "a byte behind", mark+one+"\x00")
		refused(t, "a byte behind", mark+one+"c")
	}
}

// P13.1: torn texts.
func TestParseTorn(t *testing.T) {
	l := []store.Change{store.Put("a", "12"), store.Put("bcd", ""), store.Put("e", patterned(20))}
	ends := map[int]int{}
	for i := range len(l) + 1 {
		ends[len(text(l[:i]...))] = i
	}
	whole := text(l...)
	for _, mark := range []string{"c", "w"} {
		for end := range len(whole) {
			s := (mark + whole[1:])[:end]
			if i, ok := ends[end]; ok {
				parses(t, s, l[:i], mark == "w")
			} else {
				refused(t, "torn", s)
			}
		}
	}
}

// P13.1: what the texts say, one behind the other.
func TestOpen(t *testing.T) {
	put, drop := store.Put, store.Drop
	for _, c := range []struct {
		texts []string
		want  values
	}{
		{nil, values{}},
		{[]string{"c"}, values{}},
		{[]string{"w"}, values{}},
		{[]string{text(put("a", "1"))}, values{"a": "1"}},
		{[]string{text(put("a", "1"), put("b", ""), drop("a"))}, values{"b": ""}},
		{[]string{text(drop("a"), put("a", "1"))}, values{"a": "1"}},
		{[]string{text(put("a", "1"), put("a", "2"))}, values{"a": "2"}},
		{[]string{text(put("a", "1"), put("b", "2")), text(drop("b"), put("c", "3")), text(put("a", "4"))}, values{"a": "4", "c": "3"}},
		{[]string{text(put("a", "1")), "c", text(drop("a")), text(drop("none"))}, values{}},
		{[]string{values{"a": "1", "b": "2"}.whole()}, values{"a": "1", "b": "2"}},
		{[]string{text(put("a", "1"), put("b", "2")), values{"b": "3", "c": ""}.whole()}, values{"b": "3", "c": ""}},
		{[]string{text(put("a", "1")), "w"}, values{}},
		{[]string{text(put("a", "1")), "w", text(put("b", "2")), values{"c": "3"}.whole(), text(drop("d"), put("e", "5"))}, values{"c": "3", "e": "5"}},
		{[]string{text(store.Change{Key: "a", Value: "1"}), text(store.Change{Key: "a", Value: "as it is", Gone: true})}, values{}},
	} {
		d := made(t, 24, c.texts...)
		steps, left := d.Steps(), 11*128
		for _, s := range c.texts {
			left -= 28 + len(s)
		}
		for range 2 {
			if s := opened(t, d, c.want); s.Left() != left || d.Steps() != steps {
				t.Errorf("%.80q: %d left, wanted %d; %d steps", c.texts, s.Left(), left, d.Steps()-steps)
			}
		}
	}
}

// P13.1: a log that is another one's, and the disk's errors.
func TestOpenErrors(t *testing.T) {
	one := text(store.Put("a", "1"))
	for _, s := range []string{
		"", "x", "W", one[1:], one[:len(one)-1], one + "\x00", "c\x02" + one[2:],
		"w" + change("\x01", "a", ""), "w" + one[1:] + one[1:],
	} {
		closed(t, "one that is neither's", made(t, 16, s), api.ErrBroken)
		closed(t, "behind others", made(t, 16, one, "w", s), api.ErrBroken)
		closed(t, "ahead of others", made(t, 16, s, one), api.ErrBroken)
		closed(t, "ahead of one of all there is", made(t, 16, s, "w"), api.ErrBroken)
	}
	closed(t, "of nil", nil, api.ErrNil)
	d := made(t, 16, one)
	d.Fuse(0)
	d.Sync()
	closed(t, "without power", d, api.ErrPower)
	d.Crash(0)
	opened(t, d, values{"a": "1"})
}

// P13.1: what stands behind the last text is wiped.
func TestOpenWipes(t *testing.T) {
	d := made(t, 16, text(store.Put("a", "1")))
	d.Write(5, api.Block{7: 1})
	d.Sync()
	d.Fuse(1)
	closed(t, "whose power goes", d, api.ErrPower)
	d.Crash(0)
	s := opened(t, d, values{"a": "1"})
	is(t, "Do", s.Do(store.Put("b", "2")), api.OK)
	logged(t, d, text(store.Put("a", "1")), text(store.Put("b", "2")))
}

// P13.2: changes, together, and what the log has of them.
func TestDo(t *testing.T) {
	put, drop := store.Put, store.Drop
	d := made(t, 64)
	s := opened(t, d, values{})
	want, left := values{}, 31*128
	var texts []string
	for _, l := range [][]store.Change{
		{put("a", "1"), drop("a")},
		{put("a", "1")},
		{put("b", "2"), put("b", "3"), drop("a"), put("c", "")},
		{put("b", "3")},
		{drop("none")},
		{drop("b"), put("b", "4")},
		{put("\x00", "\xff"), put("\xff", "\x00")},
		{put(strings.Repeat("k", 64), patterned(1024))},
		{drop("c"), drop("c")},
		{put("d", "c"), put("e", "w")},
	} {
		room := append(slices.Clone(l), put("room", "room"))
		is(t, "Do", s.Do(room[:len(l)]...), api.OK)
		if !slices.Equal(room, append(slices.Clone(l), put("room", "room"))) {
			t.Errorf("Do changes what is handed in: %.80v", room)
		}
		room[0] = put("not", "kept")
		want = want.behind(l...)
		texts = append(texts, text(l...))
		left -= 28 + len(text(l...))
		has(t, s, want)
		logged(t, d, texts...)
		if s.Left() != left || d.Hangs() != 0 {
			t.Errorf("%d left, wanted %d; %d hang", s.Left(), left, d.Hangs())
		}
		opened(t, d, want)
	}
}

// P13.2: changes that may not be, the first one of them.
func TestDoRefuses(t *testing.T) {
	put, drop := store.Put, store.Drop
	long, most := strings.Repeat("k", 65), strings.Repeat("k", 64)
	ok := []store.Change{put("a", "1"), drop("b"), put(most, patterned(1024)), drop(most), put(most, "")}
	d := made(t, 64)
	s := opened(t, d, values{})
	for _, c := range []struct {
		l    []store.Change
		want api.Errno
	}{
		{[]store.Change{put("", "x")}, api.ErrArg},
		{[]store.Change{drop("")}, api.ErrArg},
		{[]store.Change{{}}, api.ErrArg},
		{[]store.Change{{Key: "a", Value: "x", Gone: true}}, api.ErrArg},
		{[]store.Change{{Key: "a", Value: "\x00", Gone: true}}, api.ErrArg},
		{[]store.Change{put(long, "x")}, api.ErrLong},
		{[]store.Change{drop(long)}, api.ErrLong},
		{[]store.Change{put("a", patterned(1025))}, api.ErrLong},
		{[]store.Change{put(long, patterned(1025))}, api.ErrLong},
		{[]store.Change{put(patterned(70000), "")}, api.ErrLong},
		// Of one change ErrArg ahead of ErrLong:
		{[]store.Change{put("", patterned(1025))}, api.ErrArg},
		{[]store.Change{{Key: long, Value: "x", Gone: true}}, api.ErrArg},
		{[]store.Change{{Key: "a", Value: patterned(1025), Gone: true}}, api.ErrArg},
		// Of several the first one:
		{[]store.Change{put(long, ""), put("", "")}, api.ErrLong},
		{[]store.Change{put("", ""), put(long, "")}, api.ErrArg},
		{[]store.Change{put("a", patterned(1025)), {Key: "a", Value: "x", Gone: true}}, api.ErrLong},
		// Such a one ahead of a text that is too long, too:
		{append(slices.Repeat([]store.Change{put("a", patterned(1024))}, 20), put("", "")), api.ErrArg},
	} {
		steps, left := d.Steps(), s.Left()
		for _, l := range [][]store.Change{c.l, slices.Concat(ok, c.l), slices.Concat(c.l, ok), slices.Concat(ok, c.l, ok)} {
			is(t, fmt.Sprintf("Do(%.60v)", l), s.Do(l...), c.want)
		}
		if has(t, s, values{}); d.Steps() != steps || s.Left() != left || s.Err() != api.OK {
			t.Errorf("Do(%.60v) does something", c.l)
		}
	}
	is(t, "those that may be", s.Do(ok...), api.OK)
	has(t, s, values{"a": "1", most: ""})
}

// P13.2: without changes.
func TestDoNothing(t *testing.T) {
	d := made(t, 16, text(store.Put("a", "1")))
	s := opened(t, d, values{"a": "1"})
	steps, left := d.Steps(), s.Left()
	is(t, "Do()", s.Do(), api.OK)
	is(t, "Do of none", s.Do([]store.Change{}...), api.OK)
	d.Fuse(0)
	d.Sync()
	is(t, "Do() without power", s.Do(), api.OK)
	if has(t, s, values{"a": "1"}); d.Steps() != steps || s.Left() != left {
		t.Errorf("Do() does something: %d steps, %d left", d.Steps()-steps, s.Left())
	}
	is(t, "Do without power", s.Do(store.Drop("a")), api.ErrPower)
	is(t, "Do() of one that is lost", s.Do(), api.ErrPower)
}

// sized gives changes of which the text has so many bytes, on few keys.
func sized(t *testing.T, size int) []store.Change {
	t.Helper()
	var l []store.Change
	for i := 0; ; i++ {
		left := size - len(text(l...))
		if left == 0 {
			return l
		}
		key := string(rune('a' + i%3))
		n := min(left-10, 1024)
		if rest := left - 10 - n; rest > 0 && rest < 10 { // so that the next one has room
			n -= 10
		}
		l = append(l, store.Put(key, patterned(n)))
	}
}

// P13.2: a text that has too many bytes.
func TestDoLong(t *testing.T) {
	most, more := sized(t, 16384), sized(t, 16385)
	if len(text(most...)) != 16384 || len(text(more...)) != 16385 {
		t.Fatal("the changes aren't of the sizes that are wanted")
	}
	d := made(t, 300)
	s := opened(t, d, values{})
	is(t, "16385 bytes", s.Do(more...), api.ErrLong)
	has(t, s, values{})
	logged(t, d)
	is(t, "16384 bytes", s.Do(most...), api.OK)
	has(t, s, values{}.behind(most...))
	logged(t, d, text(most...))

	// Where the half hasn't room for it, all there is then may have: but a
	// text that is too long stays so.
	d = made(t, 66)
	s = opened(t, d, values{})
	is(t, "16385 bytes, of three keys", s.Do(more...), api.ErrLong)
	has(t, s, values{})
	logged(t, d)
	is(t, "16384 bytes, of three keys", s.Do(most...), api.OK)
	want := values{}.behind(most...)
	has(t, s, want)
	logged(t, d, want.whole())
}

// P13.2: where there is no room behind, it is begun anew.
func TestDoAnew(t *testing.T) {
	d := made(t, 16)
	s := opened(t, d, values{})
	want := values{}
	var texts []string
	left, anew := 7*128, 0
	r := rand.New(rand.NewPCG(13, 2))
	for i := range 400 {
		var l []store.Change
		for range 1 + r.IntN(4) {
			key := string(rune('a' + r.IntN(5)))
			if l = append(l, store.Put(key, patterned(r.IntN(90)))); r.IntN(3) == 0 {
				l[len(l)-1] = store.Drop(key)
			}
		}
		want = want.behind(l...)
		is(t, "Do", s.Do(l...), api.OK)
		texts = append(texts, text(l...))
		if left -= 28 + len(text(l...)); left < 0 {
			anew++
			texts = []string{want.whole()}
			left = 7*128 - 28 - len(want.whole())
		}
		has(t, s, want)
		logged(t, d, texts...)
		if s.Left() != left || d.Hangs() != 0 {
			t.Fatalf("%d left, wanted %d; %d hang", s.Left(), left, d.Hangs())
		}
		if i%10 == 0 {
			s = opened(t, d, want)
		}
	}
	if anew < 20 {
		t.Errorf("begun anew %d times", anew)
	}
}

// P13.2: to the last byte that is free.
func TestDoFills(t *testing.T) {
	d := made(t, 16)
	s := opened(t, d, values{})
	const room = 7*128 - 28 // bytes of a text that fills a half
	first := store.Put("a", patterned(100))
	is(t, "Do", s.Do(first), api.OK)
	fills := store.Put("b", patterned(s.Left()-28-1-10))
	is(t, "Do of what is left", s.Do(fills), api.OK)
	logged(t, d, text(first), text(fills))
	if s.Left() != 0 {
		t.Errorf("%d left", s.Left())
	}

	// All there is may fill the other half, too, but be no byte longer.
	all := values{}.behind(first, fills)
	size := room - len(all.whole()) - 10
	steps := d.Steps()
	is(t, "Do of a byte more", s.Do(store.Put("c", patterned(size+1))), api.ErrSpace)
	if has(t, s, all); d.Steps() != steps || s.Left() != 0 || s.Err() != api.OK {
		t.Errorf("a Do that is refused does something: %d steps, %d left, %v", d.Steps()-steps, s.Left(), s.Err())
	}
	logged(t, d, text(first), text(fills))
	is(t, "Do of a Gone one and more", s.Do(store.Drop("a"), store.Put("c", patterned(400))), api.ErrSpace)
	has(t, s, all)
	is(t, "Do of just as many", s.Do(store.Put("c", patterned(size))), api.OK)
	all = all.behind(store.Put("c", patterned(size)))
	has(t, s, all)
	logged(t, d, all.whole())
	if s.Left() != 0 {
		t.Errorf("%d left", s.Left())
	}

	// What is dropped makes room.
	is(t, "Do of one that is full", s.Do(store.Put("d", "")), api.ErrSpace)
	has(t, s, all)
	is(t, "Do that drops, and puts", s.Do(store.Put("d", ""), store.Drop("a")), api.OK)
	all = all.behind(store.Put("d", ""), store.Drop("a"))
	has(t, s, all)
	logged(t, d, all.whole())
	opened(t, d, all)
}

// P13.2: the log begun anew with all there is.
func TestRenew(t *testing.T) {
	d := made(t, 16)
	s := opened(t, d, values{})
	is(t, "Renew", s.Renew(), api.OK)
	logged(t, d, "w")
	l := []store.Change{store.Put("b", "2"), store.Put("ab", ""), store.Put("a", "1"), store.Drop("c"), store.Put("\xff", "0"), store.Put("Z", "3")}
	is(t, "Do", s.Do(l...), api.OK)
	is(t, "Do", s.Do(store.Drop("ab")), api.OK)
	logged(t, d, "w", text(l...), text(store.Drop("ab")))
	want := values{"a": "1", "b": "2", "\xff": "0", "Z": "3"}
	for range 3 {
		is(t, "Renew", s.Renew(), api.OK)
		has(t, s, want)
		logged(t, d, "w"+change("\x00", "Z", "3")+change("\x00", "a", "1")+change("\x00", "b", "2")+change("\x00", "\xff", "0"))
		if s.Left() != 7*128-28-len(want.whole()) {
			t.Errorf("%d left", s.Left())
		}
	}
	s = opened(t, d, want)
	is(t, "Do", s.Do(store.Drop("a"), store.Drop("b"), store.Drop("\xff"), store.Drop("Z")), api.OK)
	is(t, "Renew", s.Renew(), api.OK)
	logged(t, d, "w")
	has(t, s, values{})
}

// P13.2: the keys that begin so.
func TestKeys(t *testing.T) {
	d := made(t, 32)
	s := opened(t, d, values{})
	for _, key := range []string{"b", "a\xff", "a", "ab", "aa", "aaa", "\x00", "\xff", "c", "A"} {
		is(t, "Do", s.Do(store.Put(key, "of "+key)), api.OK)
	}
	for front, want := range map[string][]string{
		"":      {"\x00", "A", "a", "aa", "aaa", "ab", "a\xff", "b", "c", "\xff"},
		"a":     {"a", "aa", "aaa", "ab", "a\xff"},
		"aa":    {"aa", "aaa"},
		"aaa":   {"aaa"},
		"aaaa":  nil,
		"\x00":  {"\x00"},
		"\xff":  {"\xff"},
		"a\xff": {"a\xff"},
		"B":     nil,
		"none":  nil,
	} {
		seq := s.Keys(front)
		for range 2 {
			keys, got := rows(t, seq)
			if !slices.Equal(keys, want) {
				t.Errorf("Keys(%q) goes through %q, wanted %q", front, keys, want)
			}
			for key, value := range got {
				if value != "of "+key {
					t.Errorf("Keys(%q) tells of %q %q", front, key, value)
				}
			}
		}
		for stop := 1; stop <= len(want); stop++ { // as far as one likes
			var got []string
			for key := range seq {
				if got = append(got, key); len(got) == stop {
					break
				}
			}
			if !slices.Equal(got, want[:stop]) {
				t.Errorf("Keys(%q) left behind %d: %q", front, stop, got)
			}
		}
	}
	// What is there then:
	seq := s.Keys("a")
	is(t, "Do", s.Do(store.Drop("aa"), store.Put("ac", "of ac"), store.Put("d", "of d")), api.OK)
	if keys, _ := rows(t, seq); !slices.Equal(keys, []string{"a", "aaa", "ab", "ac", "a\xff"}) {
		t.Errorf("Keys goes through %q", keys)
	}
}

// powered tells whether the power went, where nothing else may go wrong.
func powered(t *testing.T, err api.Errno) bool {
	t.Helper()
	if err != api.OK && err != api.ErrPower {
		t.Fatalf("where the power may go: %v", err)
	}
	return err == api.ErrPower
}

// P13.2: one that is lost does nothing more, and tells by what.
func TestLost(t *testing.T) {
	before := values{"a": "1", "b": patterned(600)}
	start := text(store.Put("a", "1"), store.Put("b", patterned(600)))
	for what, do := range map[string]func(s *store.Store) api.Errno{
		"adding":     func(s *store.Store) api.Errno { return s.Do(store.Drop("a"), store.Put("c", patterned(150))) },
		"anew":       func(s *store.Store) api.Errno { return s.Do(store.Drop("b"), store.Put("c", patterned(500))) },
		"renewing":   (*store.Store).Renew,
		"all behind": func(s *store.Store) api.Errno { return s.Do(store.Drop("a"), store.Drop("b")) },
	} {
		for fuse := 0; ; fuse++ {
			d := made(t, 16, start)
			s := opened(t, d, before)
			left := s.Left()
			d.Fuse(fuse)
			if !powered(t, do(s)) {
				if fuse < 2 {
					t.Errorf("%s: %d steps were enough", what, fuse)
				}
				break
			}
			for range 2 {
				is(t, "Do", s.Do(store.Put("x", "y")), api.ErrPower)
				is(t, "Do of none", s.Do(), api.ErrPower)
				is(t, "Do of what may not be", s.Do(store.Put("", "")), api.ErrPower)
				is(t, "Do of what is too long", s.Do(sized(t, 16385)...), api.ErrPower)
				is(t, "Renew", s.Renew(), api.ErrPower)
				is(t, "Err", s.Err(), api.ErrPower)
				if has(t, s, before); s.Left() != left {
					t.Errorf("%s, %d steps: %d left, wanted %d", what, fuse, s.Left(), left)
				}
				d.Crash(0)
			}
			opened(t, d, before)
		}
	}
}

// P13.2: a nil store.
func TestNil(t *testing.T) {
	var s *store.Store
	for _, l := range [][]store.Change{nil, {store.Put("a", "1")}, {store.Put("", "")}, sized(t, 16385)} {
		is(t, "Do", s.Do(l...), api.ErrNil)
	}
	is(t, "Renew", s.Renew(), api.ErrNil)
	is(t, "Err", s.Err(), api.ErrNil)
	has(t, s, values{})
	if s.Left() != 0 {
		t.Errorf("%d left", s.Left())
	}
}

// P13.2: stores on disks of their own share nothing.
func TestApart(t *testing.T) {
	one, two := opened(t, made(t, 16), values{}), opened(t, made(t, 17), values{})
	is(t, "Do", one.Do(store.Put("a", "1")), api.OK)
	is(t, "Do", two.Do(store.Put("a", "2"), store.Put("b", "3")), api.OK)
	has(t, one, values{"a": "1"})
	has(t, two, values{"a": "2", "b": "3"})
}

// crashes goes through the disks that are left where the power goes behind
// each number of steps, whatever is kept; and tells of each whether what was
// done was answered with OK.
func crashes(t *testing.T, start func() *disk.Disk, ready func(d *disk.Disk) func() api.Errno) iter.Seq2[*disk.Disk, bool] {
	burnt := func(fuse int) (*disk.Disk, bool) {
		d := start()
		do := ready(d)
		d.Fuse(fuse)
		return d, !powered(t, do())
	}
	return func(yield func(*disk.Disk, bool) bool) {
		for fuse, done := 0, false; !done; fuse++ {
			d, _ := burnt(fuse)
			for keep := range d.Hangs() + 1 {
				if d, done = burnt(fuse); keep == d.Hangs() {
					keep = math.MaxInt
				}
				d.Crash(keep)
				if !yield(d, done) {
					return
				}
			}
		}
	}
}

// image gives all bytes of the disk that last.
func image(d *disk.Disk) string {
	var out strings.Builder
	for _, b := range d.All() {
		out.Write(b[:])
	}
	return out.String()
}

// copied gives a disk of those bytes.
func copied(image string) *disk.Disk {
	d, _ := disk.New(len(image) / 128)
	for at := range d.Sectors() {
		d.Write(at, api.Block([]byte(image[at*128:])))
	}
	d.Sync()
	return d
}

// open opens a disk that may have gone down: nothing is ready ahead of it.
func open(d *disk.Disk) func() api.Errno {
	return func() api.Errno {
		_, err := store.Open(d)
		return err
	}
}

// survives holds what is opened behind each crash against what was ahead of
// what was under way, and behind it; and so behind crashes in opening.
func survives(t *testing.T, texts []string, do func(s *store.Store) api.Errno, ahead, behind values) {
	t.Helper()
	ready := func(d *disk.Disk) func() api.Errno {
		s := opened(t, d, ahead)
		return func() api.Errno { return do(s) }
	}
	seen := map[string]bool{}
	for d, done := range crashes(t, func() *disk.Disk { return made(t, 16, texts...) }, ready) {
		left := image(d)
		if seen[left] && !done {
			continue
		}
		seen[left] = true
		s, err := store.Open(d)
		if err != api.OK {
			t.Fatalf("Open behind a crash: %v", err)
		}
		_, got := rows(t, s.Keys(""))
		if !maps.Equal(got, behind) && (done || !maps.Equal(got, ahead)) {
			t.Fatalf("behind a crash there is %.80q", got)
		}
		is(t, "Do behind a crash", s.Do(store.Put("x", "y")), api.OK)
		opened(t, d, got.behind(store.Put("x", "y")))
		if len(seen)%40 == 1 {
			for again := range crashes(t, func() *disk.Disk { return copied(left) }, open) {
				opened(t, again, got)
			}
		}
	}
}

// P13.3: wherever the power goes, where changes are added.
func TestAddSurvives(t *testing.T) {
	t.Parallel()
	put, drop := store.Put, store.Drop
	texts := []string{text(put("a", "1"), put("b", patterned(60))), text(put("c", "3"))}
	ahead := values{"a": "1", "b": patterned(60), "c": "3"}
	for _, l := range [][]store.Change{
		{},
		{put("d", "")},
		{put("a", "2"), put("b", "3"), drop("c")},
		{drop("a"), put("b", patterned(200)), put("d", patterned(130))},
		{put("e", patterned(400)), drop("e"), drop("a"), drop("b"), drop("c")},
		{put("a", text(put("z", "torn")))},
	} {
		survives(t, texts, func(s *store.Store) api.Errno { return s.Do(l...) }, ahead, ahead.behind(l...))
		survives(t, nil, func(s *store.Store) api.Errno { return s.Do(l...) }, values{}, values{}.behind(l...))
	}
}

// P13.3: wherever the power goes, where it is begun anew.
func TestAnewSurvives(t *testing.T) {
	t.Parallel()
	put, drop := store.Put, store.Drop
	texts := []string{text(put("a", "1"), put("b", patterned(300))), text(put("c", patterned(300))), text(put("b", "2"))}
	ahead := values{"a": "1", "b": "2", "c": patterned(300)}
	for _, l := range [][]store.Change{
		{put("a", patterned(200)), put("d", "4")},
		{drop("a"), drop("b"), drop("c"), put("e", patterned(400))},
		{put("d", patterned(300)), drop("d")},
	} {
		survives(t, texts, func(s *store.Store) api.Errno { return s.Do(l...) }, ahead, ahead.behind(l...))
	}
	survives(t, texts, func(s *store.Store) api.Errno {
		if err := s.Renew(); err != api.OK {
			return err
		}
		return s.Renew()
	}, ahead, ahead)
	survives(t, texts[:1], (*store.Store).Renew, values{}.behind(put("a", "1"), put("b", patterned(300))), values{"a": "1", "b": patterned(300)})
}

// lives does what the bytes tell, four of them at a time: changes are made,
// the log is begun anew, the power goes; what there is stays whole.
func lives(t *testing.T, told []byte) {
	t.Helper()
	d := made(t, 16)
	s, there := opened(t, d, values{}), values{}
	for ; len(told) >= 4; told = told[4:] {
		key := string(rune('a' + told[1]%4))
		other := string(rune('a' + told[2]%4))
		var err api.Errno
		then := there
		switch told[0] % 8 {
		case 0, 1, 2, 3:
			l := []store.Change{store.Put(key, patterned(int(told[2]))), store.Drop(other)}
			then = there.behind(l...)
			err = s.Do(l...)
		case 4:
			l := []store.Change{store.Put(key, ""), store.Put(other, patterned(int(told[3])))}
			then = there.behind(l...)
			err = s.Do(l...)
		case 5:
			err = s.Renew()
		case 6:
			d.Fuse(int(told[1]) % 20)
		case 7:
			d.Crash(int(told[1]))
			s = opened(t, d, there)
		}
		s, there = next(t, d, s, int(told[3])*4, there, then, err)
	}
	d.Crash(0)
	opened(t, d, there)
}

// next gives the store and what there is behind what was done to it; where the
// power went, behind a crash and, if it goes in opening, others.
func next(t *testing.T, d *disk.Disk, s *store.Store, keep int, ahead, behind values, err api.Errno) (*store.Store, values) {
	t.Helper()
	if err == api.OK {
		has(t, s, behind)
		return s, behind
	}
	if err == api.ErrSpace {
		if 28+len(behind.whole()) <= 7*128 {
			t.Fatal("what fits doesn't")
		}
		has(t, s, ahead)
		return s, ahead
	}
	is(t, "what a store is lost by", err, api.ErrPower)
	has(t, s, ahead)
	d.Crash(keep)
	for fuse := range 3 {
		d.Fuse(fuse)
		if _, err := store.Open(d); err == api.OK {
			break
		}
		d.Crash(keep / 2)
	}
	d.Fuse(-1)
	s, err = store.Open(d)
	is(t, "Open behind a crash", err, api.OK)
	_, got := rows(t, s.Keys(""))
	if !maps.Equal(got, ahead) && !maps.Equal(got, behind) {
		t.Fatalf("behind a crash there is %.80q", got)
	}
	return s, got
}

// P13.3: a long life, with many crashes.
func TestLives(t *testing.T) {
	t.Parallel()
	r := rand.New(rand.NewPCG(13, 3))
	for range 100 {
		told := make([]byte, 4*80)
		for i := range told {
			told[i] = byte(r.Uint32())
		}
		lives(t, told)
	}
}

// P1: every call ends and none panics, whatever bytes are there.
func FuzzEnds(f *testing.F) {
	f.Add([]byte{}, "", "", "", false)
	f.Add([]byte{0, 1, 2, 3, 4, 0, 1, 200, 6, 9, 0, 0, 5, 0, 0, 50, 7, 8, 0, 0}, text(store.Put("a", "1"), store.Drop("b")), "k", "v", false)
	f.Add([]byte{}, values{"a": "1", "b": ""}.whole(), "b", "", true)
	f.Add([]byte{}, "c\x00\xff\xff\xff\xff", strings.Repeat("k", 65), "x", true)
	f.Add([]byte{}, "w\x00\x00\x00\x00\x00\x00\x00\x00\x00", "", patterned(1025), false)
	f.Fuzz(func(t *testing.T, told []byte, s, key, value string, gone bool) {
		lives(t, told)
		changes, all, err := store.Parse(s)
		if err == api.OK && text(changes...)[1:] != s[1:] || err == api.OK && s[:1] != map[bool]string{false: "c", true: "w"}[all] {
			t.Errorf("Parse(%q) = %v, %v", s, changes, all)
		}
		c := store.Change{Key: key, Value: value, Gone: gone}
		parses(t, store.Text(c, c), []store.Change{c, c}, false)
		if len(s) > 700 {
			return
		}
		// A log on which any text stands.
		d := made(t, 16, s)
		st, opens := store.Open(d)
		is(t, "Open", opens, map[bool]api.Errno{true: api.OK, false: api.ErrBroken}[err == api.OK])
		if opens != api.OK {
			return
		}
		want := values{}.behind(changes...)
		has(t, st, want)
		if st.Do(c) == api.OK {
			want = want.behind(c)
		}
		has(t, st, want)
		is(t, "Renew", st.Renew(), api.OK)
		opened(t, d, want)
	})
}
