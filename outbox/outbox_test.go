package outbox_test

import (
	"math"
	"math/rand/v2"
	"slices"
	"strconv"
	"testing"

	"cashier/api"
	"cashier/desk"
	"cashier/outbox"
)

// outs gives so many texts, to 3ds and to app by turns, counted from a number
// on.
func outs(from, n int) (l []desk.Out) {
	for i := range n {
		l = append(l, desk.Out{To: []string{"3ds", "app"}[(from+i)%2], Text: "text" + strconv.Itoa(from+i)})
	}
	return l
}

// put gives the box with these.
func put(t testing.TB, b outbox.Box, l ...desk.Out) outbox.Box {
	t.Helper()
	b, err := b.Put(l...)
	if err != api.OK {
		t.Fatal(err)
	}
	return b
}

// held holds a box against the items that it must have, and how many ever were.
func held(t testing.TB, b outbox.Box, numbers uint64, want ...outbox.Item) {
	t.Helper()
	if got := slices.Collect(b.All("")); !slices.Equal(got, want) || b.Len() != len(want) || b.Numbers() != numbers {
		t.Fatalf("there are %v, Len() = %d, Numbers() = %d; wanted %v, %d", got, b.Len(), b.Numbers(), want, numbers)
	}
	for _, to := range []string{"", "3ds", "app", "x", "3DS", "ap", "app ", "\xff"} {
		mine := slices.DeleteFunc(slices.Clone(want), func(x outbox.Item) bool { return to != "" && x.To != to })
		if got := slices.Collect(b.All(to)); !slices.Equal(got, mine) {
			t.Errorf("All(%q) = %v, wanted %v", to, got, mine)
		}
		rest, x, ok := b.Take(to)
		if len(mine) == 0 {
			if ok || x != (outbox.Item{}) || !outbox.Same(rest, b) || rest.Numbers() != numbers {
				t.Errorf("Take(%q) = %v, %v", to, x, ok)
			}
			continue
		}
		left := slices.DeleteFunc(slices.Clone(want), func(x outbox.Item) bool { return x == mine[0] })
		if !ok || x != mine[0] || !slices.Equal(slices.Collect(rest.All("")), left) || rest.Len() != len(left) || rest.Numbers() != numbers {
			t.Errorf("Take(%q) = %v, %v, wanted %v", to, x, ok, mine[0])
		}
	}
	for _, n := range []int{0, 1, 2, 31, 32, 63, 64, 65, 64 - len(want), 65 - len(want), -1, -64, math.MaxInt, math.MinInt, math.MaxInt - 64, 1 << 32, -1 << 32} {
		if got := b.Room(n); got != (n >= 0 && n <= 64-len(want)) {
			t.Errorf("of %d there Room(%d) = %v", len(want), n, got)
		}
	}
}

// items gives what these are, numbered from one on.
func items(from uint64, l ...desk.Out) (out []outbox.Item) {
	for i, o := range l {
		out = append(out, outbox.Item{Number: from + uint64(i), To: o.To, Text: o.Text})
	}
	return out
}

// P28.1: the zero box is empty.
func TestZero(t *testing.T) {
	var b outbox.Box
	held(t, b, 0)
	held(t, put(t, b), 0)
	if _, x, ok := b.Take(""); ok || x != (outbox.Item{}) {
		t.Errorf("Take = %v, %v", x, ok)
	}
}

// P28.1: each has the next number, from 1 on, whatever was taken.
func TestNumbers(t *testing.T) {
	l := outs(0, 5)
	b := put(t, outbox.Box{}, l...)
	held(t, b, 5, items(1, l...)...)
	for range 5 {
		b, _, _ = b.Take("")
	}
	held(t, b, 5)
	b = put(t, b, l[:2]...)
	held(t, b, 7, items(6, l[:2]...)...)
	b, x, ok := b.Take("app")
	if want := (outbox.Item{Number: 7, To: "app", Text: "text1"}); x != want || !ok {
		t.Errorf("Take = %v, %v", x, ok)
	}
	b = put(t, put(t, b, l[3]), l[4])
	held(t, b, 9, outbox.Item{Number: 6, To: "3ds", Text: "text0"}, outbox.Item{Number: 8, To: "app", Text: "text3"}, outbox.Item{Number: 9, To: "3ds", Text: "text4"})
}

// P28.1: at most 64; of more none is put.
func TestFull(t *testing.T) {
	for _, there := range []int{0, 1, 30, 63, 64} {
		b := put(t, outbox.Box{}, outs(0, there)...)
		for n := range 70 {
			then, err := b.Put(outs(there, n)...)
			if there+n > 64 {
				if err != api.ErrFull {
					t.Errorf("%d behind %d: %v", n, there, err)
				}
				held(t, then, 0)
				continue
			}
			if err != api.OK {
				t.Errorf("%d behind %d: %v", n, there, err)
			}
			held(t, then, uint64(there+n), items(1, outs(0, there+n)...)...)
		}
		held(t, b, uint64(there), items(1, outs(0, there)...)...)
	}
	b := put(t, outbox.Box{}, outs(0, 64)...)
	b, _, _ = b.Take("app")
	held(t, put(t, b, desk.Out{To: "app", Text: "more"}), 65, slices.Concat(items(1, outs(0, 64)...)[:1], items(1, outs(0, 64)...)[2:], items(65, desk.Out{To: "app", Text: "more"}))...)
	if _, err := b.Put(make([]desk.Out, 100000)...); err != api.ErrFull {
		t.Errorf("of many: %v", err)
	}
}

// P28.1: whatever texts there are, to whomever; of the empty one all.
func TestWhoever(t *testing.T) {
	l := []desk.Out{{}, {To: "x"}, {Text: "a"}, {To: "\xff", Text: "\x00"}, {To: "3DS", Text: "b"}, {To: "ap"}, {To: "app ", Text: "c"}, {To: "x", Text: "d"}, {To: "x", Text: "d"}}
	b := put(t, outbox.Box{}, l...)
	held(t, b, 9, items(1, l...)...)
	for i, n := range []uint64{2, 8, 9} {
		var x outbox.Item
		var ok bool
		if b, x, ok = b.Take("x"); x.Number != n || !ok {
			t.Errorf("at %d there is %v, %v", i, x, ok)
		}
	}
	if _, _, ok := b.Take("x"); ok || b.Len() != 6 {
		t.Errorf("there are %d", b.Len())
	}
}

// P28.1: the same items, by the same numbers, and as many that ever were.
func TestSame(t *testing.T) {
	l := outs(0, 3)
	b := put(t, outbox.Box{}, l...)
	rest, _, _ := b.Take("")
	empty := b
	for range 3 {
		empty, _, _ = empty.Take("")
	}
	second, _, _ := put(t, outbox.Box{}, l[1], l[0]).Take("app")
	all := []outbox.Box{
		{}, b, rest, empty, put(t, outbox.Box{}, l[1], l[2]), put(t, outbox.Box{}, l[0], l[1]), put(t, outbox.Box{}, l[0]), second,
		put(t, outbox.Box{}, desk.Out{To: "3ds", Text: "other"}), put(t, outbox.Box{}, desk.Out{To: "app", Text: "text0"}), put(t, outbox.Box{}, l[1], l[0]),
	}
	for i, x := range all {
		for j, y := range all {
			if got := outbox.Same(x, y); got != (i == j) {
				t.Errorf("Same of %d and %d: %v", i, j, got)
			}
		}
	}
	apart := put(t, put(t, put(t, outbox.Box{}, l[0]), l[1]), l[2])
	none, _ := b.Put()
	for _, x := range []outbox.Box{apart, none, b} {
		if !outbox.Same(b, x) || !outbox.Same(x, b) {
			t.Error("the same box is another one")
		}
	}
}

// What is gone through: as often as one likes, left anywhere, one in another.
func TestAll(t *testing.T) {
	l := outs(0, 6)
	b := put(t, outbox.Box{}, l...)
	for to, want := range map[string][]outbox.Item{"": items(1, l...), "3ds": {items(1, l[0])[0], items(3, l[2])[0], items(5, l[4])[0]}, "x": nil} {
		row := b.All(to)
		for stop := range want {
			n := 0
			for x := range row {
				if x != want[n] || !slices.Equal(slices.Collect(row), want) {
					t.Errorf("to %q at %d there is %v", to, n, x)
				}
				if n == stop {
					break
				}
				n++
			}
			if n != stop {
				t.Errorf("to %q it was left at %d, not at %d", to, n, stop)
			}
		}
		if !slices.Equal(slices.Collect(row), want) {
			t.Errorf("to %q there are others at last", to)
		}
	}
}

// The rule of memory: a box stays as it was, as does what is put into it; what
// is put to one box twice doesn't meet.
func TestStays(t *testing.T) {
	l := append(make([]desk.Out, 0, 20), outs(0, 5)...)
	want := items(1, outs(0, 5)...)
	b := put(t, outbox.Box{}, l...)
	if !slices.Equal(l, outs(0, 5)) || !slices.Equal(l[:20][5:], make([]desk.Out, 15)) {
		t.Error("what was put was changed")
	}
	clear(l)
	held(t, b, 5, want...)
	one, two := put(t, b, desk.Out{Text: "one"}), put(t, b, desk.Out{Text: "two"})
	held(t, one, 6, append(slices.Clone(want), outbox.Item{Number: 6, Text: "one"})...)
	held(t, two, 6, append(slices.Clone(want), outbox.Item{Number: 6, Text: "two"})...)
	rest, _, _ := b.Take("app")
	three, four := put(t, rest, desk.Out{Text: "three"}), put(t, rest, desk.Out{Text: "four"})
	left := slices.Delete(slices.Clone(want), 1, 2)
	held(t, three, 6, append(slices.Clone(left), outbox.Item{Number: 6, Text: "three"})...)
	held(t, four, 6, append(slices.Clone(left), outbox.Item{Number: 6, Text: "four"})...)
	held(t, rest, 5, left...)
	held(t, b, 5, want...)
	_, err := b.Put(make([]desk.Out, 60)...)
	if held(t, b, 5, want...); err != api.ErrFull {
		t.Error(err)
	}
}

// P28.2: by chance, against rows that are kept for each: what was put is taken
// in its order, once; what is taken of all is the oldest one.
func TestChance(t *testing.T) {
	r := rand.New(rand.NewPCG(28, 1))
	var b outbox.Box
	var want []outbox.Item
	numbers, ends := uint64(0), map[string]int{}
	for range 3000 {
		if r.IntN(2) == 0 {
			l := outs(r.IntN(1000), r.IntN(r.IntN(4)*4+3))
			then, err := b.Put(l...)
			if len(want)+len(l) > 64 {
				ends["full"]++
				if held(t, then, 0); err != api.ErrFull {
					t.Fatal(err)
				}
				continue
			}
			want, numbers, b = append(want, items(numbers+1, l...)...), numbers+uint64(len(l)), then
		} else {
			to := []string{"", "3ds", "app", "x"}[r.IntN(4)]
			at := slices.IndexFunc(want, func(x outbox.Item) bool { return to == "" || x.To == to })
			then, x, ok := b.Take(to)
			if ok != (at >= 0) || ok && x != want[at] {
				t.Fatalf("Take(%q) = %v, %v", to, x, ok)
			}
			if b = then; ok {
				want = slices.Delete(want, at, at+1)
				ends["taken"]++
			}
		}
		held(t, b, numbers, want...)
	}
	if ends["full"] < 100 || ends["taken"] < 500 {
		t.Errorf("the ends: %v", ends)
	}
}

// P1: whatever is put, whoever takes it.
func FuzzEnds(f *testing.F) {
	f.Add("3ds", "a", "app", "b", "app", 3)
	f.Add("", "", "", "", "", -1)
	f.Add("x", "\xff", "x", "", "y", math.MaxInt)
	f.Fuzz(func(t *testing.T, one, first, two, second, to string, n int) {
		l := slices.Repeat([]desk.Out{{To: one, Text: first}, {To: two, Text: second}}, int(uint(n)%34))
		b, err := outbox.Box{}.Put(l...)
		if len(l) > 64 {
			if held(t, b, 0); err != api.ErrFull {
				t.Error(err)
			}
			return
		}
		want := items(1, l...)
		if held(t, b, uint64(len(l)), want...); err != api.OK || b.Room(n) != (n >= 0 && n <= 64-len(l)) {
			t.Errorf("of %d: %v, Room(%d) = %v", len(l), err, n, b.Room(n))
		}
		for i := 0; ; {
			for i < len(want) && to != "" && want[i].To != to {
				i++
			}
			then, x, ok := b.Take(to)
			if ok != (i < len(want)) || ok && x != want[i] {
				t.Errorf("Take(%q) = %v, %v", to, x, ok)
			}
			if b = then; !ok {
				break
			}
			want = slices.Delete(want, i, i+1)
		}
		held(t, b, uint64(len(l)), want...)
	})
}
