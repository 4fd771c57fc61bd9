package book_test

import (
	"bytes"
	"cmp"
	"fmt"
	"maps"
	"math"
	"math/rand/v2"
	"slices"
	"testing"

	"cashier/api"
	"cashier/book"
	"cashier/otp"
	"cashier/proof"
	"cashier/timer"
	"cashier/txn"
)

// entry gives one of those ids' first bytes, in that phase, of that number.
func entry(acs, server byte, phase int, seq uint64) book.Entry {
	x := txn.Txn{Case: proof.Case{ACS: api.UUID{acs}, Server: api.UUID{server}}, Phase: phase, Next: 1000 + seq, OTP: otp.State{Deadline: 2000 + seq}}
	return book.Entry{Txn: x, Seq: seq}
}

// model is a book in another way: entries by their ids.
type model map[api.UUID]book.Entry

// sorted gives the entries by rising ids.
func (m model) sorted() []book.Entry {
	return slices.SortedFunc(maps.Values(m), func(a, b book.Entry) int { return bytes.Compare(a.Txn.Case.ACS[:], b.Txn.Case.ACS[:]) })
}

// done gives those that are Done, by rising numbers, then by rising ids.
func (m model) done() []book.Entry {
	out := slices.DeleteFunc(m.sorted(), func(e book.Entry) bool { return e.Txn.Phase != 3 })
	slices.SortStableFunc(out, func(a, b book.Entry) int { return cmp.Compare(a.Seq, b.Seq) })
	return out
}

// named gives the entries' ids' first bytes, in base sixteen.
func named(l []book.Entry) (s string) {
	for _, e := range l {
		s += fmt.Sprintf("%02x ", e.Txn.Case.ACS[:1])
	}
	return s
}

// put puts the entry into the model, as the chapter says: it tells who goes.
func (m model) put(e book.Entry) ([]api.UUID, api.Errno) {
	id := e.Txn.Case.ACS
	for other, x := range m {
		if other != id && x.Txn.Case.Server == e.Txn.Case.Server {
			return nil, api.ErrThere
		}
	}
	var gone []api.UUID
	if _, there := m[id]; !there && len(m) >= 16 {
		done := m.done()
		if len(done) == 0 {
			return nil, api.ErrFull
		}
		gone = []api.UUID{done[0].Txn.Case.ACS}
		delete(m, gone[0])
	}
	m[id] = e
	return gone, api.OK
}

// held holds a book against the model.
func held(t *testing.T, b book.Book, m model) {
	t.Helper()
	want := m.sorted()
	if got := slices.Collect(b.All()); !slices.Equal(got, want) || b.Len() != len(want) {
		t.Errorf("All() = %s, wanted %s; Len() = %d", named(got), named(want), b.Len())
	}
	var q timer.Queue
	for _, e := range want {
		if got, ok := b.Get(e.Txn.Case.ACS); got != e || !ok {
			t.Errorf("Get(%x) = %v, %v", e.Txn.Case.ACS, got, ok)
		}
		if got, ok := b.Of(e.Txn.Case.Server); got != e || !ok {
			t.Errorf("Of(%x) = %v, %v", e.Txn.Case.Server, got, ok)
		}
		switch e.Txn.Phase {
		case 1:
			q, _ = q.Set(e.Txn.Case.ACS, e.Txn.OTP.Deadline)
		case 2:
			q, _ = q.Set(e.Txn.Case.ACS, e.Txn.Next)
		}
	}
	if got := b.Timers(); !timer.Same(got, q) {
		t.Errorf("Timers() has %d, wanted %d", got.Len(), q.Len())
	}
	for _, id := range []api.UUID{{}, {1}, {50}, {200}, {1, 15: 1}, {15: 1}} {
		want, there := m[id]
		if got, ok := b.Get(id); got != want || ok != there {
			t.Errorf("Get(%x) = %v, %v, wanted %v", id, got, ok, want)
		}
		var of book.Entry
		there = false
		for _, e := range m {
			if e.Txn.Case.Server == id {
				of, there = e, true
			}
		}
		if got, ok := b.Of(id); got != of || ok != there {
			t.Errorf("Of(%x) = %v, %v, wanted %v", id, got, ok, of)
		}
	}
}

// put puts an entry into a book and into its model, and holds both against each
// other; beside an error both stay.
func put(t *testing.T, b book.Book, m model, e book.Entry) book.Book {
	t.Helper()
	gone, err := m.put(e)
	next, went, got := b.Put(e)
	if got != err || !slices.Equal(went, gone) {
		t.Errorf("Put(%v) = %x, %v, wanted %x, %v", e, went, got, gone, err)
	}
	if got != api.OK {
		held(t, next, nil)
		return b
	}
	held(t, next, m)
	return next
}

// laid gives the book of these, and its model.
func laid(t *testing.T, l ...book.Entry) (b book.Book, m model) {
	t.Helper()
	m = model{}
	for _, e := range l {
		b = put(t, b, m, e)
	}
	if b.Len() != len(m) {
		t.Fatalf("of %d there are %d", len(m), b.Len())
	}
	return b, m
}

// sixteen gives as many as a book has room for, all in that phase, their ids
// even.
func sixteen(phase int) []book.Entry {
	var l []book.Entry
	for i := range byte(16) {
		l = append(l, entry(2*i+2, 100+i, phase, uint64(50+i)))
	}
	return l
}

// P25.2: the zero book is empty.
func TestZero(t *testing.T) {
	var b book.Book
	held(t, b, nil)
	if e, ok := b.Get(api.UUID{}); ok || e != (book.Entry{}) {
		t.Errorf("Get = %v, %v", e, ok)
	}
	if !book.Same(b, book.Book{}) {
		t.Error("no two empty ones are the same")
	}
	if at, ok := b.Timers().Next(); at != 0 || ok {
		t.Errorf("something is due at %d", at)
	}
	laid(t, book.Entry{}) // whose ids are zero
}

// P25.2: an entry is put in place of the one of its id.
func TestReplace(t *testing.T) {
	first := turned(func(e *book.Entry) {})
	for _, do := range []func(e *book.Entry){
		func(e *book.Entry) {}, func(e *book.Entry) { e.Seq = 0 }, func(e *book.Entry) { e.Reply = "" }, func(e *book.Entry) { e.Txn.Phase = txn.Done },
		func(e *book.Entry) { e.Txn.Case.Server = api.UUID{77} }, func(e *book.Entry) { *e = book.Entry{Txn: txn.Txn{Case: proof.Case{ACS: e.ID()}}} },
	} {
		b, m := laid(t, entry(1, 1, 1, 1), first, entry(9, 9, 3, 9))
		if b = put(t, b, m, turned(do)); b.Len() != 3 {
			t.Errorf("there are %d", b.Len())
		}
	}
	for _, phase := range []int{txn.Asked, txn.Done} { // among 16, too: nothing goes
		for _, e := range sixteen(phase) {
			b, m := laid(t, sixteen(phase)...)
			e.Last = "last"
			if b = put(t, b, m, e); b.Len() != 16 {
				t.Errorf("there are %d", b.Len())
			}
		}
	}
}

// P25.2: no two have one server's id, whichever comes first, new or not.
func TestThere(t *testing.T) {
	b, m := laid(t, entry(1, 11, 3, 1), entry(2, 12, 1, 2), entry(3, 0, 3, 3))
	for _, server := range []byte{11, 12, 0} {
		for _, acs := range []byte{0, 1, 2, 3, 4, 255} {
			at := map[byte]byte{11: 1, 12: 2, 0: 3}[server]
			next, gone, err := b.Put(entry(acs, server, 3, 9))
			if want := acs != at; (err == api.ErrThere) != want || (err == api.OK) == want || len(gone) != 0 || want && next.Len() != 0 {
				t.Errorf("Put of %d, of %d = %x, %v", acs, server, gone, err)
			}
			put(t, b, maps.Clone(m), entry(acs, server, 3, 9))
		}
	}
	for i := range 16 { // ids that differ in one byte
		e := entry(7, 11, 1, 7)
		e.Txn.Case.Server[i] ^= 1
		put(t, b, maps.Clone(m), e)
		e = entry(1, 50, 1, 7)
		e.Txn.Case.ACS[i] ^= 0x40
		put(t, b, maps.Clone(m), e)
	}
	for _, phase := range []int{txn.Asked, txn.Done} { // ahead of being full, and of who goes
		b, m := laid(t, sixteen(phase)...)
		for i := range byte(16) {
			if _, gone, err := b.Put(entry(99, 100+i, 1, 0)); err != api.ErrThere || len(gone) != 0 {
				t.Errorf("Put = %x, %v", gone, err)
			}
			put(t, b, maps.Clone(m), entry(2*i+2, 100+(i+1)%16, 1, 0))
		}
	}
}

// P25.2, P25.3: of 16 the one of the lowest number goes, of those that are Done.
func TestGoes(t *testing.T) {
	for i := range 16 {
		for j := range 16 {
			l := sixteen(txn.Asked)
			l[i].Txn.Phase, l[j].Txn.Phase = txn.Done, txn.Done
			for _, seqs := range [][2]uint64{{5, 5}, {5, 6}, {6, 5}, {0, most}, {most, 0}, {most, most}, {1 << 63, 1<<63 - 1}, {0, 0}} {
				l[i].Seq, l[j].Seq = seqs[0], seqs[1]
				want := l[min(i, j)]
				if l[max(i, j)].Seq < want.Seq {
					want = l[max(i, j)]
				}
				b, m := laid(t, l...)
				next, gone, err := b.Put(entry(byte(2*j+1), 1, 1, 0))
				if err != api.OK || !slices.Equal(gone, []api.UUID{want.ID()}) || next.Len() != 16 {
					t.Errorf("Put = %x, %v, wanted %x", gone, err, want.ID())
				}
				if _, ok := next.Get(want.ID()); ok {
					t.Errorf("%x is still there", want.ID())
				}
				if i%5 == 0 {
					put(t, b, m, entry(byte(2*j+1), 1, 1, 0))
				}
			}
		}
	}
}

// P25.2, P25.3: none goes that isn't Done, in whatever phase it is.
func TestFull(t *testing.T) {
	for _, phase := range []int{txn.Asked, txn.Told, 0, -1, 4, 259, math.MinInt, math.MaxInt} {
		b, m := laid(t, sixteen(phase)...)
		for _, e := range []book.Entry{entry(1, 1, 3, 0), entry(99, 0, 1, most), entry(0, 1, phase, 50)} {
			if next, gone, err := b.Put(e); err != api.ErrFull || len(gone) != 0 || next.Len() != 0 || !book.Same(next, book.Book{}) {
				t.Errorf("in the phase %d Put = %d, %x, %v", phase, next.Len(), gone, err)
			}
			put(t, b, maps.Clone(m), e)
		}
		b, m = laid(t, sixteen(phase)[:15]...) // of 15 none goes
		put(t, b, maps.Clone(m), entry(99, 1, 1, 0))
		b, m = laid(t, append(sixteen(phase)[:15], entry(50, 51, txn.Done, most))...)
		b = put(t, b, m, entry(99, 1, txn.Done, 0))
		if _, ok := b.Get(api.UUID{50}); ok || b.Len() != 16 {
			t.Errorf("of the phase %d one went that isn't Done", phase)
		}
	}
}

// P25.2: by rising ids, whichever byte it is that differs.
func TestOrder(t *testing.T) {
	for at := range 16 {
		low, high := entry(0, 1, 1, 5), entry(0, 2, 1, 4)
		for i := range 16 {
			low.Txn.Case.ACS[i], high.Txn.Case.ACS[i] = 0x7f, 0x7f
			if i > at { // what stands behind counts for nothing
				low.Txn.Case.ACS[i] = 0xff
			}
		}
		high.Txn.Case.ACS[at] = 0x80
		for _, l := range [][]book.Entry{{low, high}, {high, low}} {
			b, _ := laid(t, l...)
			if got := slices.Collect(b.All()); !slices.Equal(got, []book.Entry{low, high}) {
				t.Errorf("All() = %x", got)
			}
		}
	}
}

// P25.2: all are due that layer 23 says are, then.
func TestTimers(t *testing.T) {
	var l []book.Entry
	for i, phase := range []int{1, 2, 3, 0, -1, 4, 1, 2, 3} {
		l = append(l, entry(byte(20-i), byte(i), phase, uint64(i%4)))
	}
	b, _ := laid(t, l...)
	q := b.Timers()
	type due struct {
		at uint64
		id api.UUID
	}
	var got []due
	for at, id := range q.Due(most) {
		got = append(got, due{at, id})
	}
	if want := []due{{1001, api.UUID{19}}, {1003, api.UUID{13}}, {2000, api.UUID{20}}, {2002, api.UUID{14}}}; !slices.Equal(got, want) {
		t.Errorf("due are %v, wanted %v", got, want)
	}
	b, _ = laid(t, sixteen(txn.Told)...)
	if n := b.Timers().Len(); n != 16 {
		t.Errorf("due are %d of 16", n)
	}
	b, _ = laid(t, sixteen(txn.Done)...)
	if n := b.Timers().Len(); n != 0 {
		t.Errorf("due are %d of those that are Done", n)
	}
}

// P25.2: two are the same, if they have the same entries, wherever these come
// from.
func TestSame(t *testing.T) {
	books := []book.Book{{}}
	for _, l := range [][]book.Entry{
		{{}}, {entry(0, 0, 0, 1)}, {entry(1, 1, 1, 1)}, {entry(2, 1, 1, 1)}, {entry(1, 2, 1, 1)}, {entry(1, 1, 2, 1)}, {entry(1, 1, 1, 2)}, {full()},
		{turned(func(e *book.Entry) { e.Txn.Next = 0 })}, {turned(func(e *book.Entry) { e.First = "" })}, {turned(func(e *book.Entry) { e.Sum = "" })},
		{turned(func(e *book.Entry) { e.Last = "" })}, {turned(func(e *book.Entry) { e.Reply = "" })}, {turned(func(e *book.Entry) { e.Txn.Case.Date = "" })},
		{entry(1, 1, 1, 1), entry(2, 2, 1, 1)}, {entry(1, 1, 1, 1), entry(2, 2, 1, 2)}, {entry(1, 1, 1, 1), {}}, {entry(1, 1, 1, 1), full()}, sixteen(1), sixteen(2),
	} {
		b, _ := laid(t, l...)
		books = append(books, b)
	}
	for i, a := range books {
		for j, b := range books {
			if got := book.Same(a, b); got != (i == j) {
				t.Errorf("Same of %d and %d = %v", i, j, got)
			}
		}
		l := slices.Collect(a.All())
		slices.Reverse(l)
		if b, _ := laid(t, l...); !book.Same(a, b) || !book.Same(b, a) {
			t.Errorf("%s isn't the same as itself", named(l))
		}
	}
}

// The rule of rows: they may be left anywhere, and gone through again, one in
// another.
func TestLeft(t *testing.T) {
	want := []book.Entry{entry(1, 3, 1, 1), entry(2, 2, 2, 2), entry(3, 1, 3, 3)}
	b, _ := laid(t, want[2], want[0], want[1])
	row := b.All()
	for stop := range want {
		n := 0
		for e := range row {
			if e != want[n] {
				t.Errorf("at %d stands %v", n, e)
			}
			if inner := slices.Collect(row); !slices.Equal(inner, want) {
				t.Errorf("in it stand %s", named(inner))
			}
			if n == stop {
				break
			}
			n++
		}
		if n != stop {
			t.Errorf("it was left at %d, not at %d", n, stop)
		}
	}
}

// The rule of memory: a book stays as it was, whatever is made of it; what is
// told of who goes is nobody else's.
func TestStays(t *testing.T) {
	var l []book.Book
	var models []model
	b, m := book.Book{}, model{}
	for i, e := range sixteen(txn.Done) {
		l, models = append(l, b), append(models, maps.Clone(m))
		e.Seq = uint64(i * 5 % 16)
		b = put(t, b, m, e)
	}
	l, models = append(l, b), append(models, m)
	for i, b := range l {
		row := b.All()
		for n := range byte(40) {
			put(t, b, maps.Clone(models[i]), entry(n, 50+n, int(n%4), uint64(n)))
			next, gone, _ := b.Put(entry(n, 50+n, 3, uint64(n)))
			if len(gone) > 0 {
				gone[0] = api.UUID{}
			}
			next.Put(entry(n, 60+n, 1, 0))
			next.Put(entry(41, 99, 1, 0))
		}
		held(t, b, models[i])
		if n := len(slices.Collect(row)); n != i {
			t.Errorf("a row has %d, wanted %d", n, i)
		}
	}
}

// P25.2, P25.3: steps by chance: there are never more than 16, and one that
// isn't Done never goes.
func TestChance(t *testing.T) {
	r := rand.New(rand.NewPCG(25, 2))
	ends := map[api.Errno]int{}
	for range 60 {
		b, m := book.Book{}, model{}
		for range 120 {
			e := entry(byte(r.IntN(24)), byte(r.IntN(40)), 1+r.IntN(3), r.Uint64N(6))
			if r.IntN(3) > 0 {
				e.Txn.Phase = txn.Asked
			}
			before := b
			b = put(t, b, m, e)
			_, gone, err := before.Put(e)
			ends[err]++
			ends[api.Errno(-len(gone))]++
			for old := range before.All() {
				if _, ok := b.Get(old.ID()); !ok && (old.Txn.Phase != txn.Done || !slices.Contains(gone, old.ID())) {
					t.Errorf("%v went", old)
				}
			}
			if b.Len() > 16 {
				t.Errorf("there are %d", b.Len())
			}
		}
	}
	for _, err := range []api.Errno{api.OK, api.ErrThere, api.ErrFull, -1} {
		if ends[err] < 50 {
			t.Errorf("the ends: %v", ends)
		}
	}
}

// P1: whatever is put.
func FuzzEnds(f *testing.F) {
	f.Add([]byte("\x01\x05\x02\x05\x01\xff"))
	f.Add([]byte{0, 0, 3, 0, 1, 1, 3, 1, 2, 2, 3, 2, 3, 3, 3, 3, 4, 4, 3, 4, 5, 5, 1, 5, 6, 6, 1, 6, 7, 7, 1, 7, 8, 8, 1, 8, 9, 9, 1, 9, 10, 10, 1, 10,
		11, 11, 1, 11, 12, 12, 1, 12, 13, 13, 1, 13, 14, 14, 2, 14, 15, 15, 3, 15, 16, 16, 3, 16, 17, 17, 1, 17})
	f.Fuzz(func(t *testing.T, l []byte) {
		b, m := book.Book{}, model{}
		for ; len(l) > 3; l = l[4:] {
			b = put(t, b, m, entry(l[0]%32, l[1]%64, int(int8(l[2])), uint64(l[3])<<(l[0]/4)))
		}
		held(t, b, m)
	})
}
