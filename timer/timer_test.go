package timer_test

import (
	"bytes"
	"maps"
	"math"
	"math/rand/v2"
	"slices"
	"testing"

	"cashier/api"
	"cashier/timer"
)

const most = math.MaxUint64

// named gives an id of that first byte.
func named(b byte) api.UUID { return api.UUID{b} }

// model is a queue in another way: when each id is due.
type model map[api.UUID]uint64

// due is an id, and when.
type due struct {
	at uint64
	id api.UUID
}

// sorted gives those that are due then, in order.
func (m model) sorted(now uint64) []due {
	var out []due
	for id, at := range m {
		if at <= now {
			out = append(out, due{at, id})
		}
	}
	slices.SortFunc(out, func(a, b due) int {
		if a.at != b.at {
			return map[bool]int{true: -1, false: 1}[a.at < b.at]
		}
		return bytes.Compare(a.id[:], b.id[:])
	})
	return out
}

// all gives those that a queue goes through.
func all(q timer.Queue, now uint64) (out []due) {
	for at, id := range q.Due(now) {
		out = append(out, due{at, id})
	}
	return out
}

// set gives the queue with the id, where that may be.
func set(t *testing.T, q timer.Queue, id api.UUID, at uint64) timer.Queue {
	t.Helper()
	q, err := q.Set(id, at)
	if err != api.OK {
		t.Fatalf("Set(%x, %d): %v", id, at, err)
	}
	return q
}

// laid gives the queue of these, one behind the other.
func laid(t *testing.T, l ...due) (q timer.Queue) {
	t.Helper()
	for _, d := range l {
		q = set(t, q, d.id, d.at)
	}
	return q
}

// held holds a queue against the model, at those ticks and at all at which
// something is due.
func held(t *testing.T, q timer.Queue, m model, ticks ...uint64) {
	t.Helper()
	if q.Len() != len(m) {
		t.Errorf("Len() = %d, wanted %d", q.Len(), len(m))
	}
	first, there := uint64(0), false
	for id, at := range m {
		if got, ok := q.At(id); got != at || !ok {
			t.Errorf("At(%x) = %d, %v, wanted %d", id, got, ok, at)
		}
		if !there || at < first {
			first, there = at, true
		}
		ticks = append(ticks, at, max(at, 1)-1, min(at, most-1)+1)
	}
	if got, ok := q.Next(); got != first || ok != there {
		t.Errorf("Next() = %d, %v, wanted %d, %v", got, ok, first, there)
	}
	for _, now := range append(ticks, 0, most) {
		if got, want := all(q, now), m.sorted(now); !slices.Equal(got, want) {
			t.Errorf("Due(%d) = %v, wanted %v", now, got, want)
		}
	}
}

// P24.1, P24.2: the zero queue is empty.
func TestZero(t *testing.T) {
	var q timer.Queue
	held(t, q, nil, 5)
	if at, ok := q.At(api.UUID{}); at != 0 || ok {
		t.Errorf("At = %d, %v", at, ok)
	}
	if !timer.Same(q, timer.Queue{}) || !timer.Same(q.Drop(api.UUID{}), q) {
		t.Error("no two empty ones are the same")
	}
	held(t, q.Drop(named(1)), nil)
}

// P24.1: an id is due at the tick that was set last, and at that alone.
func TestSet(t *testing.T) {
	for _, id := range []api.UUID{{}, {1}, {0xff}, {15: 1}} {
		for _, at := range []uint64{0, 1, 5, 1 << 32, 1 << 63, most - 1, most} {
			q := set(t, timer.Queue{}, id, at)
			held(t, q, model{id: at})
			for _, then := range []uint64{0, 5, at, most} {
				held(t, set(t, q, id, then), model{id: then})
			}
			held(t, set(t, q, named(7), 9), model{id: at, named(7): 9})
			held(t, q.Drop(id), nil)
			held(t, q.Drop(named(7)), model{id: at})
			if at, ok := q.At(named(7)); at != 0 || ok {
				t.Errorf("At of one that isn't there = %d, %v", at, ok)
			}
		}
	}
}

// P24.1: there is room for 16; those that are there may be set anew.
func TestFull(t *testing.T) {
	var q timer.Queue
	m := model{}
	for i := range 16 {
		id := named(byte(i))
		q, m[id] = set(t, q, id, uint64(100-i)), uint64(100-i)
		held(t, q, m)
	}
	for _, at := range []uint64{0, 90, most} {
		if got, err := q.Set(named(16), at); err != api.ErrFull || got.Len() != 0 || !timer.Same(got, timer.Queue{}) {
			t.Errorf("Set of a 17th = %d, %v", got.Len(), err)
		}
		for i := range 16 {
			turned := maps.Clone(m)
			turned[named(byte(i))] = at
			held(t, set(t, q, named(byte(i)), at), turned)
		}
	}
	held(t, q, m)
	for i := range 16 {
		less := maps.Clone(m)
		delete(less, named(byte(i)))
		held(t, q.Drop(named(byte(i))), less)
		less[named(16)] = 95
		held(t, set(t, q.Drop(named(byte(i))), named(16), 95), less)
	}
	if q.Drop(named(16)).Len() != 16 {
		t.Error("one that isn't there was dropped")
	}
}

// P24.2: by rising ticks, of one tick by rising ids, whichever byte it is that
// differs.
func TestOrder(t *testing.T) {
	for at := range 16 {
		var low, high api.UUID
		for i := range 16 {
			low[i], high[i] = 0x7f, 0x7f
			if i > at { // what stands behind counts for nothing
				low[i] = 0xff
			}
		}
		high[at] = 0x80
		for _, l := range [][]due{{{5, low}, {5, high}}, {{5, high}, {5, low}}} {
			if got := all(laid(t, l...), 5); !slices.Equal(got, []due{{5, low}, {5, high}}) {
				t.Errorf("of one tick: %v", got)
			}
		}
		for _, l := range [][]due{{{4, high}, {5, low}}, {{5, low}, {4, high}}} {
			if got := all(laid(t, l...), 5); !slices.Equal(got, []due{{4, high}, {5, low}}) {
				t.Errorf("of two ticks: %v", got)
			}
		}
	}
	q := laid(t, due{1 << 63, named(1)}, due{1, named(2)}, due{1 << 32, named(3)}, due{most, named(4)}, due{0, named(5)}, due{255, named(6)}, due{256, named(7)})
	if got, want := all(q, most), []due{{0, named(5)}, {1, named(2)}, {255, named(6)}, {256, named(7)}, {1 << 32, named(3)}, {1 << 63, named(1)}, {most, named(4)}}; !slices.Equal(got, want) {
		t.Errorf("Due = %v, wanted %v", got, want)
	}
}

// P24.2: what is due at a tick is due from then on.
func TestDue(t *testing.T) {
	q := laid(t, due{5, named(2)}, due{5, named(1)}, due{4, named(3)}, due{9, named(0)})
	for now, n := range map[uint64]int{0: 0, 3: 0, 4: 1, 5: 3, 6: 3, 8: 3, 9: 4, 10: 4, most: 4} {
		if got := all(q, now); len(got) != n {
			t.Errorf("Due(%d) = %v", now, got)
		}
	}
	if at, ok := laid(t, due{0, named(1)}).Next(); at != 0 || !ok {
		t.Errorf("Next = %d, %v", at, ok)
	}
}

// P24.1: two are the same, if the same ids are due at the same ticks.
func TestSame(t *testing.T) {
	queues := []timer.Queue{
		{}, laid(t, due{5, named(1)}), laid(t, due{6, named(1)}), laid(t, due{5, named(2)}), laid(t, due{0, named(0)}), laid(t, due{5, api.UUID{1, 15: 1}}),
		laid(t, due{5, named(1)}, due{5, named(2)}), laid(t, due{5, named(1)}, due{6, named(2)}), laid(t, due{6, named(1)}, due{5, named(2)}),
		laid(t, due{5, named(1)}, due{5, named(2)}, due{5, named(3)}),
	}
	for i, a := range queues {
		for j, b := range queues {
			if got := timer.Same(a, b); got != (i == j) {
				t.Errorf("Same of %v and %v = %v", all(a, most), all(b, most), got)
			}
		}
		if !timer.Same(a, set(t, a, named(9), 3).Drop(named(9))) || !timer.Same(a, laid(t, all(a, most)...)) {
			t.Errorf("%v isn't the same as itself", all(a, most))
		}
	}
}

// P24.3: the order in which ids are set makes no difference, nor what was set
// and dropped between.
func TestAnyOrder(t *testing.T) {
	r := rand.New(rand.NewPCG(24, 3))
	for range 500 {
		var l []due
		for i := range r.IntN(17) {
			l = append(l, due{r.Uint64N(6), named(byte(i))})
		}
		want := laid(t, l...)
		for range 5 {
			r.Shuffle(len(l), func(i, j int) { l[i], l[j] = l[j], l[i] })
			var q timer.Queue
			for _, d := range l {
				if q = set(t, q, d.id, r.Uint64N(6)); r.IntN(3) == 0 {
					q = q.Drop(d.id)
				}
				q = set(t, q, d.id, d.at)
			}
			if !timer.Same(q, want) || !slices.Equal(all(q, most), all(want, most)) {
				t.Errorf("%v, wanted %v", all(q, most), all(want, most))
			}
		}
	}
}

// The rule of rows: they may be left anywhere, and gone through again, one in
// another.
func TestLeft(t *testing.T) {
	q := laid(t, due{5, named(2)}, due{5, named(1)}, due{4, named(3)}, due{9, named(0)})
	row, want := q.Due(5), []due{{4, named(3)}, {5, named(1)}, {5, named(2)}}
	for stop := range want {
		n := 0
		for at, id := range row {
			if (due{at, id}) != want[n] {
				t.Errorf("at %d stands %x, due at %d", n, id, at)
			}
			inner := 0
			for at, id := range row {
				if (due{at, id}) != want[inner] {
					t.Errorf("at %d of another stands %x, due at %d", inner, id, at)
				}
				inner++
			}
			if n == stop {
				break
			}
			n++
		}
		if n != stop {
			t.Errorf("it was left at %d, not at %d", n, stop)
		}
	}
}

// The rule of memory: a queue stays as it was, whatever is made of it.
func TestStays(t *testing.T) {
	var l []timer.Queue
	var models []model
	q, m := timer.Queue{}, model{}
	for i := range 16 {
		l, models = append(l, q), append(models, maps.Clone(m))
		id := named(byte(i * 7 % 16))
		q, m[id] = set(t, q, id, uint64(i%3)), uint64(i%3)
	}
	for i, q := range l {
		row := q.Due(most)
		for b := range byte(16) {
			for _, at := range []uint64{0, 1, 7} {
				q.Set(named(b), at)
				set(t, q, named(b), at).Set(named(99), 0)
				q.Drop(named(b)).Set(named(99), at)
			}
		}
		held(t, q, models[i])
		n := 0
		for range row {
			n++
		}
		if n != i {
			t.Errorf("a row has %d, wanted %d", n, i)
		}
	}
}

// P24.1, P24.2: steps by chance.
func TestChance(t *testing.T) {
	r := rand.New(rand.NewPCG(24, 1))
	full := 0
	for range 200 {
		q, m := timer.Queue{}, model{}
		for range 80 {
			id, at := named(byte(r.IntN(20))), r.Uint64N(8)
			if r.IntN(10) == 0 {
				at = most - r.Uint64N(3)
			}
			if r.IntN(6) == 0 {
				q = q.Drop(id)
				delete(m, id)
			} else if next, err := q.Set(id, at); err == api.OK {
				q, m[id] = next, at
			} else if _, there := m[id]; there || len(m) < 16 || err != api.ErrFull || next.Len() != 0 {
				t.Errorf("of %d Set = %v", len(m), err)
			} else {
				full++
			}
			held(t, q, m, r.Uint64N(9))
		}
	}
	if full < 100 {
		t.Errorf("full only %d times", full)
	}
}

// P1: whatever is set and dropped.
func FuzzEnds(f *testing.F) {
	f.Add([]byte("\x01\x05\x02\x05\x01\xff"), uint64(5))
	f.Add([]byte{0, 0, 1, 1, 2, 2, 3, 3, 4, 4, 5, 5, 6, 6, 7, 7, 8, 8, 9, 9, 10, 10, 11, 11, 12, 12, 13, 13, 14, 14, 15, 15, 16, 16}, uint64(most))
	f.Fuzz(func(t *testing.T, l []byte, now uint64) {
		q, m := timer.Queue{}, model{}
		for ; len(l) > 1; l = l[2:] {
			id, at := named(l[0]%32), uint64(l[1])*(now/128)
			if l[0] >= 200 {
				q = q.Drop(id)
				delete(m, id)
				continue
			}
			_, there := m[id]
			next, err := q.Set(id, at)
			if (err == api.OK) != (there || len(m) < 16) || err != api.OK && (err != api.ErrFull || next.Len() != 0) {
				t.Errorf("of %d Set = %v", len(m), err)
			}
			if err == api.OK {
				q, m[id] = next, at
			}
		}
		held(t, q, m, now)
	})
}
