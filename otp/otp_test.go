package otp_test

import (
	"crypto/hmac"
	"crypto/sha256"
	"encoding/binary"
	"fmt"
	"math"
	"math/rand/v2"
	"regexp"
	"slices"
	"strings"
	"testing"

	"cashier/api"
	"cashier/otp"
)

const code, wrong = "123456", "123457"

// begun gives a challenge that was begun.
func begun(t *testing.T, tries int, now, wait uint64) otp.State {
	t.Helper()
	s, err := otp.Begin(tries, now, wait)
	if err != api.OK {
		t.Fatalf("Begin(%d, %d, %d): %v", tries, now, wait, err)
	}
	return s
}

// What the numbers are that others keep.
func TestNumbers(t *testing.T) {
	if got := [...]int{otp.Right, otp.Out, otp.Late, otp.Gone, otp.Wrong}; got != [...]int{1, 2, 3, 4, 5} {
		t.Errorf("the numbers are %v", got)
	}
}

// codeOf gives the code by the library's sums.
func codeOf(key string, id [16]byte) string {
	sum := sha256.Sum256(append([]byte("otp"), id[:]...))
	h := hmac.New(sha256.New, []byte(key))
	h.Write(sum[:8])
	out := h.Sum(nil)
	n := binary.BigEndian.Uint32(out[out[31]%16:]) & math.MaxInt32
	return fmt.Sprintf("%06d", n%1000000)
}

// P21.1: codes, by what the library has.
func TestCode(t *testing.T) {
	r := rand.New(rand.NewPCG(21, 1))
	keys := []string{"", "k", "key", "\x00", "\xff", strings.Repeat("k", 63), strings.Repeat("k", 64), strings.Repeat("k", 65), strings.Repeat("long", 500)}
	for _, key := range keys {
		for n := range 200 {
			var id api.UUID
			switch {
			case n < 16:
				id[n] = 1
			case n < 32:
				id[n-16] = 0x80
			case n > 32:
				for i := range id {
					id[i] = byte(r.Uint32())
				}
			}
			if got, want := otp.Code(key, id), codeOf(key, id); got != want {
				t.Errorf("Code(%.20q, %x) = %q, wanted %q", key, id, got, want)
			}
		}
	}
}

// P21.1: each byte of an id, and the key, count; a code may begin with noughts.
func TestCodesApart(t *testing.T) {
	six := regexp.MustCompile(`\A[0-9]{6}\z`)
	seen, noughts := map[string]int{}, 0
	for at := range 16 {
		for b := 1; b < 256; b++ {
			var id api.UUID
			id[at] = byte(b)
			got := otp.Code("k", id)
			if !six.MatchString(got) {
				t.Errorf("Code of %x = %q", id, got)
			}
			seen[got]++
			if strings.HasPrefix(got, "0") {
				noughts++
			}
		}
	}
	// Of 4080 draws of a million some eight are alike.
	if len(seen) < 4050 || noughts < 300 || noughts > 520 {
		t.Errorf("%d codes, of which %d begin with 0", len(seen), noughts)
	}
	if id := (api.UUID{1}); otp.Code("k", id) == otp.Code("l", id) {
		t.Error("the key doesn't count")
	}
}

// P21.1: which tries there may be, and until when.
func TestBegin(t *testing.T) {
	const most = math.MaxUint64
	for tries := -20; tries <= 300; tries++ {
		began(t, tries, 5, 10, 15)
	}
	for _, tries := range []int{math.MinInt, math.MaxInt, 1 << 32, 1<<32 + 1, -1 << 32, 256 + 3, 1<<16 + 5} {
		began(t, tries, 5, 10, 15)
	}
	for _, c := range []struct{ now, wait, deadline uint64 }{
		{0, 0, 0}, {0, 1, 1}, {1, 0, 1}, {7, 0, 7}, {1, 1, 2}, {1 << 32, 1 << 33, 3 << 32},
		{most, 0, most}, {0, most, most}, {most - 1, 1, most}, {most - 2, 1, most - 1}, {1, most - 2, most - 1},
		{most, 1, most}, {1, most, most}, {most, most, most}, {1 << 63, 1 << 63, most}, {1<<63 - 1, 1 << 63, most}, {1 << 63, 1<<63 + 5, most},
	} {
		for tries := 1; tries <= 9; tries++ {
			began(t, tries, c.now, c.wait, c.deadline)
		}
		began(t, 0, c.now, c.wait, 0)
		began(t, 10, c.now, c.wait, 0)
	}
}

func began(t *testing.T, tries int, now, wait, deadline uint64) {
	t.Helper()
	want, due := otp.State{Tries: tries, Deadline: deadline}, api.OK
	if tries < 1 || tries > 9 {
		want, due = otp.State{}, api.ErrRange
	}
	if got, err := otp.Begin(tries, now, wait); got != want || err != due {
		t.Errorf("Begin(%d, %d, %d) = %v, %v, wanted %v, %v", tries, now, wait, got, err, want, due)
	}
}

// entered, ticked and given up: the chapter's words, in another way.
func entered(s otp.State, code, said string, now uint64) (otp.State, int) {
	how := s.Over
	if how == 0 {
		left := s.Tries
		if code != said && now < s.Deadline {
			left = max(left, math.MinInt+1) - 1
		}
		how = 5
		if left <= 0 {
			how = 2
		}
		if code == said {
			how = 1
		}
		if now >= s.Deadline {
			how = 3
		}
		s.Tries = left
		if how != 5 {
			s.Over = how
		}
	}
	return s, how
}

func ticked(s otp.State, now uint64) (otp.State, bool) {
	if s.Over == 0 && s.Deadline <= now {
		return otp.State{Tries: s.Tries, Deadline: s.Deadline, Over: 3}, true
	}
	return s, false
}

func givenUp(s otp.State, now uint64) (otp.State, bool) {
	if late, ok := ticked(s, now); ok || s.Over != 0 {
		return late, ok
	}
	return otp.State{Tries: s.Tries, Deadline: s.Deadline, Over: 4}, true
}

// held holds all that is done to a state against the words above.
func held(t *testing.T, s otp.State, code, said string, now uint64) {
	t.Helper()
	next, how := entered(s, code, said, now)
	if got, gone := s.Enter(code, said, now); got != next || gone != how {
		t.Errorf("%v: Enter(%q, %q, %d) = %v, %d, wanted %v, %d", s, code, said, now, got, gone, next, how)
	}
	next, ok := ticked(s, now)
	if got, done := s.Tick(now); got != next || done != ok {
		t.Errorf("%v: Tick(%d) = %v, %v, wanted %v, %v", s, now, got, done, next, ok)
	}
	next, ok = givenUp(s, now)
	if got, done := s.Cancel(now); got != next || done != ok {
		t.Errorf("%v: Cancel(%d) = %v, %v, wanted %v, %v", s, now, got, done, next, ok)
	}
}

// P21.2: all tries and ends, about the deadline.
func TestSteps(t *testing.T) {
	const most = math.MaxUint64
	ticks := []uint64{0, 1, 14, 15, 16, 1 << 32, 1<<32 + 15, 1 << 63, most - 1, most}
	for tries := -5; tries <= 11; tries++ {
		for over := -1; over <= 7; over++ {
			for _, deadline := range ticks {
				for _, now := range ticks {
					s := otp.State{Tries: tries, Deadline: deadline, Over: over}
					held(t, s, code, code, now)
					held(t, s, code, wrong, now)
				}
			}
		}
	}
}

// P21.2: one step by itself, told in full.
func TestStepsTold(t *testing.T) {
	s := otp.State{Tries: 2, Deadline: 15}
	for _, c := range []struct {
		s    otp.State
		said string
		now  uint64
		next otp.State
		how  int
	}{
		{s, code, 14, otp.State{Tries: 2, Deadline: 15, Over: otp.Right}, otp.Right},
		{s, wrong, 14, otp.State{Tries: 1, Deadline: 15}, otp.Wrong},
		{s, code, 15, otp.State{Tries: 2, Deadline: 15, Over: otp.Late}, otp.Late},
		{s, wrong, 15, otp.State{Tries: 2, Deadline: 15, Over: otp.Late}, otp.Late},
		{otp.State{Tries: 1, Deadline: 15}, wrong, 0, otp.State{Deadline: 15, Over: otp.Out}, otp.Out},
		{otp.State{Deadline: 15}, wrong, 0, otp.State{Tries: -1, Deadline: 15, Over: otp.Out}, otp.Out},
		{otp.State{Tries: -3, Deadline: 15}, wrong, 14, otp.State{Tries: -4, Deadline: 15, Over: otp.Out}, otp.Out},
		{otp.State{Tries: -3, Deadline: 15}, wrong, 15, otp.State{Tries: -3, Deadline: 15, Over: otp.Late}, otp.Late},
		{otp.State{Deadline: 15}, code, 0, otp.State{Deadline: 15, Over: otp.Right}, otp.Right},
		{otp.State{Tries: 1, Deadline: 15}, code, 0, otp.State{Tries: 1, Deadline: 15, Over: otp.Right}, otp.Right},
		{otp.State{Tries: 1, Deadline: 15}, wrong, 15, otp.State{Tries: 1, Deadline: 15, Over: otp.Late}, otp.Late},
		{otp.State{Tries: 1, Deadline: 15, Over: otp.Right}, wrong, 99, otp.State{Tries: 1, Deadline: 15, Over: otp.Right}, otp.Right},
		{otp.State{Deadline: 15, Over: otp.Out}, code, 0, otp.State{Deadline: 15, Over: otp.Out}, otp.Out},
		{otp.State{Tries: 3, Deadline: 15, Over: otp.Late}, code, 0, otp.State{Tries: 3, Deadline: 15, Over: otp.Late}, otp.Late},
		{otp.State{Tries: 3, Deadline: 15, Over: otp.Gone}, code, 0, otp.State{Tries: 3, Deadline: 15, Over: otp.Gone}, otp.Gone},
	} {
		if got, how := c.s.Enter(code, c.said, c.now); got != c.next || how != c.how {
			t.Errorf("%v: Enter(%q, %d) = %v, %d, wanted %v, %d", c.s, c.said, c.now, got, how, c.next, c.how)
		}
	}
}

// P21.2: a code is said just as it is, or it is wrong.
func TestSaid(t *testing.T) {
	s := otp.State{Tries: 2, Deadline: 1}
	for _, code := range []string{"", "0", "000000", "123456", "012345", "a", "\x00", "\xff\xfe", strings.Repeat("1", 5000)} {
		for _, said := range []string{
			"", "0", "00000", "000000", "0000000", "123456", "012345", "12345", "1234567", " 123456", "123456 ", "123456\n", "123456\x00", "123 456",
			"+123456", "-123456", "123457", "023456", "123455", "113456", "a", "A", "\x00", "\x00\x00", "\xff\xfe", "\xff\xff", "\u0661\u0662\u0663", strings.Repeat("1", 5000), strings.Repeat("1", 4999),
		} {
			held(t, s, code, said, 0)
			held(t, s, code, said, 1)
		}
	}
}

// P21.2: a wrong text leaves one try less, whatever number there was; only the
// least stays, as numbers at their ends don't go round.
func TestEnds(t *testing.T) {
	least := otp.State{Tries: math.MinInt, Deadline: 9}
	if got, how := least.Enter(code, wrong, 0); how != otp.Out || got != (otp.State{Tries: math.MinInt, Deadline: 9, Over: otp.Out}) {
		t.Errorf("%v: Enter = %v, %d", least, got, how)
	}
	for _, tries := range []int{math.MinInt + 1, math.MinInt + 2, -1 << 32, -256, -3, -1, 0, 1} {
		s := otp.State{Tries: tries, Deadline: 9}
		if got, how := s.Enter(code, wrong, 0); how != otp.Out || got != (otp.State{Tries: tries - 1, Deadline: 9, Over: otp.Out}) {
			t.Errorf("%v: Enter = %v, %d", s, got, how)
		}
	}
	for _, tries := range []int{2, 10, 256, 257, 1 << 32, 1<<32 + 1, math.MaxInt} {
		s := otp.State{Tries: tries, Deadline: 9}
		if got, how := s.Enter(code, wrong, 0); how != otp.Wrong || got != (otp.State{Tries: tries - 1, Deadline: 9}) {
			t.Errorf("%v: Enter = %v, %d", s, got, how)
		}
	}
	for _, over := range []int{math.MinInt, -1, 5, 256, 1 << 32, math.MaxInt} {
		s := otp.State{Tries: 3, Deadline: 9, Over: over}
		for _, now := range []uint64{0, 9} {
			held(t, s, code, code, now)
			held(t, s, code, wrong, now)
		}
	}
}

// steps gives what a run goes through.
func steps(s otp.State, code string, l ...string) (said []string, states []otp.State) {
	for text, then := range otp.Run(s, code, l...) {
		said, states = append(said, text), append(states, then)
	}
	return said, states
}

// P21.2: all texts that are entered, one behind the other, at the tick 0.
func TestRun(t *testing.T) {
	texts := []string{wrong, "", code, wrong, code, "x"}
	for tries := -2; tries <= 9; tries++ {
		for over := range 5 {
			for _, deadline := range []uint64{0, 1, 99} {
				for n := range len(texts) + 1 {
					s := otp.State{Tries: tries, Deadline: deadline, Over: over}
					said, states := steps(s, code, texts[:n]...)
					if !slices.Equal(said, texts[:n]) {
						t.Fatalf("%v: Run goes through %q", s, said)
					}
					then := s
					for i, text := range texts[:n] {
						then, _ = entered(then, code, text, 0)
						if states[i] != then {
							t.Errorf("%v: Run has %v at %d, wanted %v", s, states[i], i, then)
						}
					}
				}
			}
		}
	}
	for range otp.Run(otp.State{Tries: 1, Deadline: 1}, code) {
		t.Error("Run of no texts has one")
	}
}

// The rule of rows: a run may be left anywhere, and gone through again, one
// in another.
func TestRunAgain(t *testing.T) {
	texts := []string{wrong, wrong, code, "x"}
	run := otp.Run(otp.State{Tries: 3, Deadline: 1}, code, texts...)
	want := []otp.State{{2, 1, 0}, {1, 1, 0}, {1, 1, 1}, {1, 1, 1}}
	for stop := range texts {
		at := 0
		for said, then := range run {
			if said != texts[at] || then != want[at] {
				t.Errorf("Run has %q, %v at %d", said, then, at)
			}
			inner := 0
			for said, then := range run {
				if said != texts[inner] || then != want[inner] {
					t.Errorf("Run has %q, %v at %d of another", said, then, inner)
				}
				inner++
			}
			if at == stop {
				break
			}
			at++
		}
		if at != stop {
			t.Errorf("Run was left at %d, not at %d", at, stop)
		}
	}
}

// P21.3: the bytes of texts.
func TestText(t *testing.T) {
	for _, c := range []struct {
		s    otp.State
		text string
	}{
		{otp.State{}, "\x00\x00\x00\x00\x00\x00\x00\x00\x00\x00"},
		{otp.State{Tries: 9, Deadline: 0x0102030405060708, Over: 4}, "\x09\x04\x01\x02\x03\x04\x05\x06\x07\x08"},
		{otp.State{Tries: 1, Deadline: 15}, "\x01\x00\x00\x00\x00\x00\x00\x00\x00\x0f"},
		{otp.State{Over: 2, Deadline: math.MaxUint64}, "\x00\x02\xff\xff\xff\xff\xff\xff\xff\xff"},
		{otp.State{Tries: 255, Over: 256}, "\xff\x00\x00\x00\x00\x00\x00\x00\x00\x00"},
		{otp.State{Tries: -1, Over: -2}, "\xff\xfe\x00\x00\x00\x00\x00\x00\x00\x00"},
		{otp.State{Tries: math.MinInt, Over: math.MaxInt}, "\x00\xff\x00\x00\x00\x00\x00\x00\x00\x00"},
		{otp.State{Tries: 1<<32 + 7, Over: 3<<40 + 1, Deadline: 1 << 63}, "\x07\x01\x80\x00\x00\x00\x00\x00\x00\x00"},
	} {
		if got := c.s.Text(); got != c.text {
			t.Errorf("%v: Text() = %x, wanted %x", c.s, got, c.text)
		}
	}
}

// P21.3: of which texts there is a state, by all tries and ends that bytes
// can tell.
func TestParse(t *testing.T) {
	for tries := range 256 {
		for over := range 256 {
			for _, deadline := range []uint64{0, 15, 0x0102030405060708, 1 << 63, math.MaxUint64} {
				s := otp.State{Tries: tries, Deadline: deadline, Over: over}
				want, due := s, api.OK
				if tries > 9 || over > 4 {
					want, due = otp.State{}, api.ErrForm
				}
				if got, err := otp.Parse(s.Text()); got != want || err != due {
					t.Errorf("Parse(%x) = %v, %v", s.Text(), got, err)
				}
			}
		}
	}
}

// P21.3: texts of another length.
func TestParseLength(t *testing.T) {
	for n := range 40 {
		for _, s := range []string{strings.Repeat("\x00", n), strings.Repeat("\x01", n), "\x02" + strings.Repeat("\x00", n)} {
			_, err := otp.Parse(s)
			if want := map[bool]api.Errno{true: api.OK, false: api.ErrForm}[len(s) == 10]; err != want {
				t.Errorf("Parse(%x): %v", s, err)
			}
		}
	}
	for _, s := range []string{"", "\x01", strings.Repeat("\x00", 100000), "0123456789"} {
		if got, err := otp.Parse(s); err != api.ErrForm || got != (otp.State{}) {
			t.Errorf("Parse(%.20x) = %v, %v", s, got, err)
		}
	}
}

// P21.4: of wrong texts just so many are looked at; what is over stays so,
// and isn't changed any more.
func TestLooked(t *testing.T) {
	for tries := 1; tries <= 9; tries++ {
		s, looked := begun(t, tries, 0, 5), 0
		for range 20 {
			before := s
			var how int
			s, how = s.Enter(code, wrong, 1)
			if s != before {
				looked++
			}
			if want := map[bool]int{true: otp.Wrong, false: otp.Out}[looked < tries]; how != want {
				t.Errorf("of %d tries at the %dth: %d", tries, looked, how)
			}
		}
		if got, how := s.Enter(code, code, 1); looked != tries || how != otp.Out || got != s {
			t.Errorf("of %d tries %d were looked at; then %v, %d", tries, looked, got, how)
		}
	}
}

// P21.2, P21.4: steps by chance, the state written and read between them.
func TestChance(t *testing.T) {
	r := rand.New(rand.NewPCG(21, 4))
	ends := map[int]int{}
	for range 5000 {
		tries, now := 1+r.IntN(9), r.Uint64N(50)
		s := begun(t, tries, now, r.Uint64N(30))
		looked := 0
		for range 30 {
			said := [...]string{code, wrong, wrong, wrong, wrong, ""}[r.IntN(6)]
			now += r.Uint64N(4)
			held(t, s, code, said, now)
			before := s
			switch r.IntN(30) {
			case 0:
				s, _ = s.Cancel(now)
			case 1, 2, 3, 4, 5:
				s, _ = s.Tick(now)
			default:
				var how int
				if s, how = s.Enter(code, said, now); s != before && how != otp.Late {
					looked++
				}
			}
			if before.Over != 0 && s != before || looked > tries || s.Over == 0 && s.Tries != tries-looked {
				t.Fatalf("of %d tries %d were looked at: %v, then %v", tries, looked, before, s)
			}
			if back, err := otp.Parse(s.Text()); err != api.OK || back != s {
				t.Fatalf("%v is read as %v, %v", s, back, err)
			}
		}
		ends[s.Over]++
	}
	for _, over := range []int{otp.Right, otp.Out, otp.Late, otp.Gone} {
		if ends[over] < 100 {
			t.Errorf("%d ended %d times", over, ends[over])
		}
	}
}

// The rule of memory: what is handed in isn't changed.
func TestMemory(t *testing.T) {
	l := append(make([]string, 0, 9), wrong, code, wrong)
	s := otp.State{Tries: 2, Deadline: 1}
	for range otp.Run(s, code, l...) {
	}
	if !slices.Equal(l[:cap(l)][:4], []string{wrong, code, wrong, ""}) || s != (otp.State{Tries: 2, Deadline: 1}) {
		t.Errorf("what was handed in is changed: %q, %v", l, s)
	}
}

// P1: every call ends and none panics, whatever is handed in; what is found is
// what the test finds.
func FuzzEnds(f *testing.F) {
	f.Add(2, uint64(15), 0, "k", code, wrong, uint64(14), uint64(1), "\x02\x00\x00\x00\x00\x00\x00\x00\x00\x0f")
	f.Add(0, uint64(0), 0, "", "", "", uint64(0), uint64(0), "")
	f.Add(math.MinInt, uint64(math.MaxUint64), math.MaxInt, "\xff", "\xff", "\xff", uint64(math.MaxUint64), uint64(math.MaxUint64), strings.Repeat("\xff", 10))
	f.Fuzz(func(t *testing.T, tries int, deadline uint64, over int, key, code, said string, now, wait uint64, text string) {
		s := otp.State{Tries: tries, Deadline: deadline, Over: over}
		held(t, s, code, said, now)
		held(t, s, code, code, now)
		until := now + wait
		if until < now {
			until = math.MaxUint64
		}
		began(t, tries, now, wait, until)
		_, states := steps(s, code, said, code, said)
		then := s
		for i, text := range []string{said, code, said} {
			if then, _ = then.Enter(code, text, 0); states[i] != then {
				t.Errorf("%v: Run has %v at %d, wanted %v", s, states[i], i, then)
			}
		}
		if want := string([]byte{byte(tries), byte(over)}) + string(binary.BigEndian.AppendUint64(nil, deadline)); s.Text() != want {
			t.Errorf("%v: Text() = %x, wanted %x", s, s.Text(), want)
		}
		fits := len(text) == 10 && text[0] < 10 && text[1] < 5
		if got, err := otp.Parse(text); fits != (err == api.OK) || fits && got.Text() != text || !fits && (err != api.ErrForm || got != otp.State{}) {
			t.Errorf("Parse(%x) = %v, %v", text, got, err)
		}
		var id api.UUID
		copy(id[:], text)
		if got, want := otp.Code(key, id), codeOf(key, id); got != want {
			t.Errorf("Code(%q, %x) = %q, wanted %q", key, id, got, want)
		}
	})
}
