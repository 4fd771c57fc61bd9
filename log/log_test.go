package log_test

import (
	"crypto/sha256"
	"encoding/binary"
	"hash/crc32"
	"iter"
	"math"
	"math/rand/v2"
	"slices"
	"strings"
	"testing"

	"cashier/api"
	"cashier/disk"
	"cashier/log"
)

// The form, told a second time: of what is written, and where.

func sealed(told, text string) string {
	sum := sha256.Sum256([]byte(told + text))
	told += string(sum[:16])
	return told + string(binary.BigEndian.AppendUint32(nil, crc32.ChecksumIEEE([]byte(told+text))))
}

func frame(number, size uint32, text string) string {
	told := binary.BigEndian.AppendUint32(binary.BigEndian.AppendUint32(nil, number), size)
	return sealed(string(told), text) + text
}

// framed gives the frames of the texts, one behind the other.
func framed(texts ...string) string {
	out := ""
	for i, text := range texts {
		out += frame(uint32(i+1), uint32(len(text)), text)
	}
	return out
}

func mark(number, half uint64) string {
	return sealed("CKMK"+string(binary.BigEndian.AppendUint64(binary.BigEndian.AppendUint64(nil, number), half)), "")
}

// filled gives the bytes with noughts behind them, so many in all.
func filled(bytes string, size int) string { return bytes + strings.Repeat("\x00", size-len(bytes)) }

// laid gives the bytes of a disk of so many sectors, of its marks and halves.
func laid(sectors int, mark0, mark1, half0, half1 string) string {
	half := (sectors - 2) / 2 * 128
	return filled(filled(mark0, 128)+filled(mark1, 128)+filled(half0, half)+filled(half1, half), sectors*128)
}

// disked gives a disk of those bytes.
func disked(t *testing.T, image string) *disk.Disk {
	t.Helper()
	d, err := disk.New(len(image) / 128)
	if err != api.OK {
		t.Fatalf("New: %v", err)
	}
	for at := range d.Sectors() {
		if b := api.Block([]byte(image[at*128:])); b != (api.Block{}) {
			d.Write(at, b)
		}
	}
	d.Sync()
	return d
}

// image gives all bytes of the disk that last.
func image(d *disk.Disk) string {
	var out strings.Builder
	for _, b := range d.All() {
		out.Write(b[:])
	}
	return out.String()
}

// made gives a new disk of so many sectors.
func made(t *testing.T, sectors int) *disk.Disk {
	t.Helper()
	return disked(t, strings.Repeat("\x00", sectors*128))
}

// opened opens the disk, of which just those texts are wanted.
func opened(t *testing.T, d *disk.Disk, want ...string) *log.Log {
	t.Helper()
	l, texts, err := log.Open(d)
	if l == nil || err != api.OK || !slices.Equal(texts, want) {
		t.Fatalf("Open: %d texts, %v; %.60q, wanted %.60q", len(texts), err, texts, want)
	}
	has(t, l, want...)
	return l
}

// has holds what a log tells of itself against its texts.
func has(t *testing.T, l *log.Log, texts ...string) {
	t.Helper()
	if l.Count() != len(texts) || l.Err() != api.OK {
		t.Fatalf("Count %d, Err %v; wanted %d", l.Count(), l.Err(), len(texts))
	}
}

// is holds an error against the one that is wanted.
func is(t *testing.T, what string, got, want api.Errno) {
	t.Helper()
	if got != want {
		t.Errorf("%s: %v, wanted %v", what, got, want)
	}
}

// patterned gives n bytes that aren't all alike.
func patterned(n int) string {
	b := make([]byte, n)
	for i := range b {
		b[i] = byte(i*167 + i>>8*31 + 5)
	}
	return string(b)
}

// pair is what Frames tells at a time.
type pair struct {
	end  int
	text string
}

func pairs(seq iter.Seq2[int, string]) []pair {
	var out []pair
	for end, text := range seq {
		out = append(out, pair{end, text})
	}
	return out
}

// wanted gives what Frames tells of the texts' frames.
func wanted(texts ...string) []pair {
	var out []pair
	end := 0
	for _, text := range texts {
		end += 28 + len(text)
		out = append(out, pair{end, text})
	}
	return out
}

// P12.1: a frame, a mark, written out by hand.
func TestWrittenOut(t *testing.T) {
	d := made(t, 16)
	l := opened(t, d)
	is(t, "Add", l.Add("abc"), api.OK)
	head := "\x00\x00\x00\x01\x00\x00\x00\x03"
	sum := sha256.Sum256([]byte(head + "abc"))
	if got := image(d)[256:]; !strings.HasPrefix(got, head+string(sum[:16])) || got[28:31] != "abc" || got[31:] != filled("", 14*128-31) {
		t.Errorf("a frame is %x", got[:40])
	}
	is(t, "Renew", l.Renew(""), api.OK)
	told := "CKMK\x00\x00\x00\x00\x00\x00\x00\x01\x00\x00\x00\x00\x00\x00\x00\x01"
	sum = sha256.Sum256([]byte(told))
	crc := binary.BigEndian.AppendUint32(nil, crc32.ChecksumIEEE([]byte(told+string(sum[:16]))))
	if got := image(d); got[:128] != filled("", 128) || got[128:256] != filled(told+string(sum[:16])+string(crc), 128) {
		t.Errorf("the marks are %x", got[:256])
	}
}

// P12.1: the texts, and the places behind their frames.
func TestFrames(t *testing.T) {
	many := make([]string, 700) // so that numbers of more than a byte come
	for i := range many {
		many[i] = patterned(i % 5)
	}
	for _, texts := range [][]string{
		nil, {""}, {"a"}, {"", "", ""}, {"one", "", "two"}, {framed("x", "y"), "z"}, {strings.Repeat("\x00", 300), "\xff\x80"},
		{patterned(16384)}, {"a", patterned(16385), "b"}, {patterned(100000)}, many,
	} {
		for _, behind := range []string{"", "\x00", filled("", 27), filled("", 28), filled("", 500), "\x01", patterned(200)} {
			rows := log.Frames(framed(texts...) + behind)
			for range 2 {
				if got := pairs(rows); !slices.Equal(got, wanted(texts...)) {
					t.Fatalf("%d texts with %.20q behind: %d", len(texts), behind, len(got))
				}
			}
		}
	}
}

// P12.1: as long as they are whole, and numbered in order.
func TestFramesEnd(t *testing.T) {
	front := framed("one", "two")
	for what, behind := range map[string]string{
		"the first number again":        frame(1, 1, "x"),
		"the last number again":         frame(2, 1, "x"),
		"a number left out":             frame(4, 1, "x"),
		"the number 0":                  frame(0, 1, "x"),
		"a byte of noughts ahead":       "\x00" + frame(3, 1, "x"),
		"a length of one too many":      frame(3, 2, "x"),
		"a length of one too few":       frame(3, 0, "x"),
		"a length as great as may be":   frame(3, math.MaxUint32, "x"),
		"a length below 0, as an int":   frame(3, 1<<31, "x"),
		"the sum of another text":       frame(3, 1, "x")[:28] + "y",
		"a CRC alone that is right":     crced("\x00\x00\x00\x03\x00\x00\x00\x01"+strings.Repeat("s", 16), "x"),
		"a CRC that leaves out sums":    frame(3, 1, "x")[:24] + crced("\x00\x00\x00\x03\x00\x00\x00\x01", "x")[8:],
		"a CRC that leaves texts out":   frame(3, 1, "x")[:24] + crced(frame(3, 1, "x")[:24], "")[24:] + "x",
		"a sum that leaves out texts":   crced(sealed("\x00\x00\x00\x03\x00\x00\x00\x01", "")[:24], "x"),
		"numbers the lowest byte ahead": sealed("\x03\x00\x00\x00\x01\x00\x00\x00", "x") + "x",
	} {
		for _, more := range []string{"", frame(3, 1, "x"), frame(4, 1, "x")} {
			if got := pairs(log.Frames(front + behind + more)); !slices.Equal(got, wanted("one", "two")) {
				t.Errorf("%s: %v", what, got)
			}
		}
	}
	// The same with a number that is the first one's: nothing is there.
	if got := pairs(log.Frames(frame(2, 1, "x") + frame(3, 1, "x"))); len(got) != 0 {
		t.Errorf("numbers from 2 on: %v", got)
	}
	if got := pairs(log.Frames("\x00" + front)); len(got) != 0 {
		t.Errorf("not from the first byte on: %v", got)
	}
}

// crced gives what is told with its and the text's CRC, and the text.
func crced(told, text string) string {
	return told + string(binary.BigEndian.AppendUint32(nil, crc32.ChecksumIEEE([]byte(told+text)))) + text
}

// P12.1: of a frame that is torn, or has another bit, there is no text.
func TestFramesWhole(t *testing.T) {
	front, whole := framed("one"), framed("one", "second")
	for end := range len(whole) {
		want := wanted("one")
		if end < len(front) {
			want = nil
		}
		for _, s := range []string{whole[:end], whole[:end] + filled("", 100)} {
			if got := pairs(log.Frames(s)); !slices.Equal(got, want) {
				t.Errorf("the first %d bytes: %v", end, got)
			}
		}
	}
	for bit := range 8 * len(whole) {
		b := []byte(whole)
		b[bit/8] ^= 1 << (bit % 8)
		want := wanted("one")
		if bit < 8*len(front) {
			want = nil
		}
		if got := pairs(log.Frames(string(b) + filled("", 50))); !slices.Equal(got, want) {
			t.Errorf("bit %d turned: %v", bit, got)
		}
	}
}

// P12.1: as far as one likes.
func TestFramesLeft(t *testing.T) {
	texts := []string{"a", "", "ccc", "d"}
	rows := log.Frames(framed(texts...))
	for stop := 1; stop <= len(texts); stop++ {
		var got []pair
		for end, text := range rows {
			if got = append(got, pair{end, text}); len(got) == stop {
				break
			}
		}
		if !slices.Equal(got, wanted(texts[:stop]...)) {
			t.Errorf("left behind %d: %v", stop, got)
		}
	}
}

// P12.1: the half that counts, by the marks.
func TestOpenMarks(t *testing.T) {
	const low = "\x00\x00\x00\x00\x00\x00\x00"
	for _, c := range []struct {
		mark0, mark1 string
		half         int
	}{
		{"", "", 0},
		{"", mark(1, 1), 1},
		{"", mark(1, 0), 0},
		{mark(2, 0), mark(1, 1), 0},
		{mark(2, 1), mark(1, 0), 1},
		{mark(2, 0), mark(3, 1), 1},
		{mark(2, 1), mark(3, 0), 0},
		{mark(256, 0), mark(255, 1), 0},
		{mark(256, 1), mark(511, 0), 0},
		{mark(1<<32, 1), mark(1<<32-1, 0), 1},
		{mark(1<<63, 1), mark(1<<63-1, 0), 1},
		{mark(1<<63-2, 0), mark(1<<63+1, 1), 1},
		{mark(math.MaxUint64-1, 0), mark(math.MaxUint64, 1), 1},
		{mark(0, 1), "", 1},
		{mark(0, 1), mark(1, 0), 0},
		// No marks, beside one that is:
		{mark(2, 1), mark(3, 2), 1},
		{mark(2, 1), mark(3, 256), 1},
		{mark(2, 1), mark(3, 1<<56), 1},
		{mark(2, 1), mark(3, math.MaxUint64), 1},
		{mark(2, 1), filled(mark(3, 0), 127) + "\x01", 1},
		{mark(2, 1), mark(3, 0) + "\x01", 1},
		{mark(2, 1), "\x00" + mark(3, 0), 1},
		{mark(2, 1), sealed("CKML"+low+"\x03"+low+"\x00", ""), 1},
		{mark(2, 1), crced("CKMK"+low+"\x03"+low+"\x00"+strings.Repeat("s", 16), ""), 1},
		{mark(2, 1), mark(3, 0)[:36] + crced("CKMK"+low+"\x03"+low+"\x00", "")[20:], 1},
		{mark(2, 1), patterned(128), 1},
		{patterned(128), patterned(128), 0},
	} {
		for sectors := 16; sectors <= 19; sectors++ {
			d := disked(t, laid(sectors, c.mark0, c.mark1, framed("none", "yet"), framed("other")))
			steps := d.Steps()
			want := [][]string{{"none", "yet"}, {"other"}}[c.half]
			l := opened(t, d, want...)
			if d.Steps() != steps || l.Left() != (sectors-2)/2*128-len(framed(want...)) {
				t.Errorf("%x, %x, %d sectors: %d steps, %d left", c.mark0, c.mark1, sectors, d.Steps()-steps, l.Left())
			}
		}
	}
}

// P12.1: a mark of which a bit is another one doesn't count.
func TestOpenTornMark(t *testing.T) {
	for bit := range 8 * 128 {
		b := []byte(filled(mark(7, 1), 128))
		b[bit/8] ^= 1 << (bit % 8)
		d := disked(t, laid(16, mark(6, 0), string(b), framed("first"), framed("second")))
		opened(t, d, "first")
		d = disked(t, laid(16, "", string(b), framed("first"), framed("second")))
		opened(t, d, "first")
	}
}

// step is a sector that is written, or a sync.
type step struct {
	at    int
	bytes string
	sync  bool
}

// writes gives the steps that write the bytes from a sector on, and sync.
func writes(at int, bytes string) []step {
	var out []step
	for ; len(bytes) > 128; at++ {
		out = append(out, step{at: at, bytes: bytes[:128]})
		bytes = bytes[128:]
	}
	return append(out, step{at: at, bytes: filled(bytes, 128)}, step{sync: true})
}

// torn gives what lasts of an image, where a crash behind the steps keeps so
// many bytes.
func torn(image string, steps []step, keep int) string {
	lasting, hangs := []byte(image), []step(nil)
	for _, s := range steps {
		if hangs = append(hangs, s); s.sync {
			for _, h := range hangs {
				copy(lasting[h.at*128:], h.bytes)
			}
			hangs = nil
		}
	}
	for _, h := range hangs {
		keep -= copy(lasting[h.at*128:], h.bytes[:max(0, min(keep, 128))])
	}
	return string(lasting)
}

// follows holds what a call does to a disk against the steps that it should,
// wherever the power goes.
func follows(t *testing.T, what, start string, ready func(d *disk.Disk) func() api.Errno, want []step) {
	t.Helper()
	for fuse := range len(want) + 1 {
		for _, keep := range []int{0, 1, 27, 100, 128, 129, 300, 511, math.MaxInt} {
			d := disked(t, start)
			do := ready(d)
			steps := d.Steps()
			d.Fuse(fuse)
			got, err := do(), api.OK
			if fuse < len(want) {
				err = api.ErrPower
			}
			if got != err || d.Steps()-steps != fuse || d.Down() != (err != api.OK) {
				t.Fatalf("%s, %d steps of %d: %v behind %d, down %v", what, fuse, len(want), got, d.Steps()-steps, d.Down())
			}
			d.Crash(keep)
			if image(d) != torn(start, want[:fuse], keep) {
				t.Fatalf("%s, %d steps of %d: a crash that keeps %d leaves another disk", what, fuse, len(want), keep)
			}
		}
	}
}

// P12.1: what is wiped, and how.
func TestOpenWipes(t *testing.T) {
	const sectors, size = 17, 7 * 128
	for half := range 2 {
		for _, texts := range [][]string{nil, {"a"}, {patterned(100)}, {patterned(99)}, {patterned(101)}, {patterned(300), "bb"}, {patterned(size - 28 - 1)}, {patterned(200), strings.Repeat("\x00", 50)}} {
			frames := framed(texts...)
			used := len(frames)
			for _, garbage := range []string{
				"\x01", "\x00\x00\x00\x01", filled("", 127) + "\x80", filled("", 128) + "\xff", patterned(40), patterned(300),
				filled(patterned(10), 400) + "\x07", filled("", size-used-1) + "\x09", frame(uint32(len(texts)+2), 3, "abc"),
				frame(uint32(len(texts)+1), 400, patterned(400))[:300], patterned(size),
			} {
				garbage = garbage[:min(len(garbage), size-used)]
				last := used + len(strings.TrimRight(garbage, "\x00")) - 1 // the place of the last byte that isn't 0
				if last < used {
					continue
				}
				from := used / 128
				bytes := filled(frames, size)[from*128 : (last/128+1)*128]
				place := 2 + half*7 + from
				halves := [2]string{framed("other", "half") + "garbage", framed("other", "half") + "garbage"}
				halves[half] = frames + garbage
				start := laid(sectors, mark(4, uint64(half)), "no mark", halves[0], halves[1])
				start = start[:len(start)-1] + "x" // the odd sector isn't any half's
				follows(t, "Open", start, func(d *disk.Disk) func() api.Errno {
					return func() api.Errno {
						l, got, err := log.Open(d)
						if err == api.OK && (!slices.Equal(got, texts) || l.Count() != len(texts) || l.Left() != size-used) {
							t.Errorf("Open: %q, %d, %d left", got, l.Count(), l.Left())
						}
						if err != api.OK && (l != nil || len(got) != 0) {
							t.Errorf("Open: %v, %q beside %v", l, got, err)
						}
						return err
					}
				}, writes(place, bytes))
			}
		}
	}
}

// P12.1: where nothing is behind the last frame, nothing is written.
func TestOpenWipesNothing(t *testing.T) {
	full := patterned(7*128 - 28)
	for _, texts := range [][]string{nil, {""}, {"a", "b"}, {patterned(100)}, {strings.Repeat("\x00", 500)}, {full}, {full[:len(full)-28], ""}} {
		d := disked(t, laid(17, "no mark", "neither", framed(texts...), "garbage"))
		before, steps := image(d), d.Steps()
		for range 3 {
			opened(t, d, texts...)
		}
		d.Fuse(0)
		opened(t, d, texts...)
		if d.Steps() != steps || d.Down() || image(d) != before {
			t.Errorf("%d texts: Open did %d steps", len(texts), d.Steps()-steps)
		}
	}
}

// P12.1: what hangs is there, as it is read.
func TestOpenReadsWhatHangs(t *testing.T) {
	d := made(t, 16)
	d.Write(2, api.Block([]byte(filled(framed("hangs"), 128))))
	opened(t, d, "hangs")
	if d.Hangs() != 128 {
		t.Errorf("%d hang", d.Hangs())
	}
}

// P12.1: the disk's errors.
func TestOpenErrors(t *testing.T) {
	nothing := func(d *disk.Disk, want api.Errno) {
		t.Helper()
		if l, texts, err := log.Open(d); l != nil || len(texts) != 0 || err != want {
			t.Errorf("Open: %v, %q, %v, wanted %v", l, texts, err, want)
		}
	}
	nothing(nil, api.ErrNil)
	d := disked(t, laid(16, "", "", framed("a")+"garbage", ""))
	d.Fuse(0)
	nothing(d, api.ErrPower) // in wiping
	nothing(d, api.ErrPower) // at once
	d.Crash(0)
	d.Fuse(1)
	nothing(d, api.ErrPower)
	d.Crash(0)
	opened(t, d, "a")
}

// adds and renews make a log ready for a text.
func adds(t *testing.T, text string, texts ...string) func(d *disk.Disk) func() api.Errno {
	return func(d *disk.Disk) func() api.Errno {
		l := opened(t, d, texts...)
		return func() api.Errno { return l.Add(text) }
	}
}

func renews(t *testing.T, text string, texts ...string) func(d *disk.Disk) func() api.Errno {
	return func(d *disk.Disk) func() api.Errno {
		l := opened(t, d, texts...)
		return func() api.Errno { return l.Renew(text) }
	}
}

// P12.2: how a text is added.
func TestAddWrites(t *testing.T) {
	for half := range 2 {
		for _, texts := range [][]string{nil, {"a"}, {patterned(99)}, {patterned(100)}, {patterned(101)}, {"a", "", patterned(200)}} {
			for _, text := range []string{"", "b", patterned(90), patterned(128 - 28), patterned(129), patterned(384 - 28), strings.Repeat("\x00", 200)} {
				frames, used := framed(append(slices.Clone(texts), text)...), len(framed(texts...))
				halves := [2]string{"garbage", "garbage"}
				halves[half] = framed(texts...)
				start := laid(17, mark(2, uint64(half)), mark(1, uint64(1-half)), halves[0], halves[1])
				follows(t, "Add", start, adds(t, text, texts...), writes(2+half*7+used/128, frames[used/128*128:]))
			}
		}
	}
}

// P12.2: how it is begun anew.
func TestRenewWrites(t *testing.T) {
	for _, c := range []struct {
		mark0, mark1 string
		number       uint64
		half         int // the other one
	}{
		{"", "", 1, 1}, {"", mark(1, 1), 2, 0}, {mark(2, 0), mark(1, 1), 3, 1}, {mark(2, 1), mark(3, 1), 4, 0}, {"torn", mark(255, 0), 256, 1},
		{mark(1<<32, 1), "torn", 1<<32 + 1, 0}, {mark(1<<63, 1), mark(1<<63-1, 0), 1<<63 + 1, 0}, {mark(math.MaxUint64-1, 0), "", math.MaxUint64, 1},
	} {
		for _, text := range []string{"", "all there is", patterned(100), patterned(101), patterned(7*128 - 28)} {
			halves := [2]string{framed("a", "b"), framed("a", "b")}
			halves[c.half] = patterned(7 * 128)
			place := 2 + c.half*7
			want := slices.Concat(writes(place, filled("", 7*128)), writes(place, framed(text)), writes(int(c.number%2), mark(c.number, uint64(c.half))))
			follows(t, "Renew", laid(17, c.mark0, c.mark1, halves[0], halves[1]), renews(t, text, "a", "b"), want)
		}
	}
}

// P12.2: texts that are added, and what is left then.
func TestAdd(t *testing.T) {
	d := made(t, 20)
	l := opened(t, d)
	var texts []string
	left := 9 * 128
	for _, text := range []string{"one", "", patterned(300), "\x00\x00", framed("one"), "\xff", patterned(128)} {
		is(t, "Add", l.Add(text), api.OK)
		texts = append(texts, text)
		left -= 28 + len(text)
		has(t, l, texts...)
		if l.Left() != left || d.Hangs() != 0 {
			t.Errorf("%d left, wanted %d; %d hang", l.Left(), left, d.Hangs())
		}
		// Another one that is only opened does nothing.
		if l := opened(t, d, texts...); l.Left() != left {
			t.Errorf("opened anew %d are left, wanted %d", l.Left(), left)
		}
	}
}

// P12.2: what is too long, and what doesn't fit, in that order.
func TestAddRefuses(t *testing.T) {
	d := made(t, 4096)
	l := opened(t, d)
	long := patterned(16384)
	is(t, "16385 bytes", l.Add(long+"x"), api.ErrLong)
	is(t, "many bytes", l.Add(patterned(300000)), api.ErrLong)
	is(t, "16384 bytes", l.Add(long), api.OK)
	opened(t, d, long)

	d = made(t, 16)
	l = opened(t, d)
	size := 7 * 128
	steps := d.Steps()
	refuses := func(text string, want api.Errno) {
		t.Helper()
		count, left := l.Count(), l.Left()
		is(t, "Add", l.Add(text), want)
		if l.Count() != count || l.Left() != left || d.Steps() != steps || l.Err() != api.OK {
			t.Errorf("a text that is refused does something: %d, %d, %d, %v", l.Count(), l.Left(), d.Steps(), l.Err())
		}
	}
	refuses(patterned(16385), api.ErrLong)
	refuses(patterned(16384), api.ErrSpace)
	refuses(patterned(size), api.ErrSpace)
	refuses(patterned(size-27), api.ErrSpace)
	is(t, "two that fit", l.Add("12"), api.OK)
	is(t, "two that fit", l.Add(patterned(size-30-28-27)), api.OK)
	steps = d.Steps()
	if l.Left() != 27 {
		t.Errorf("%d left", l.Left())
	}
	refuses("", api.ErrSpace)
	refuses("x", api.ErrSpace)
	refuses(patterned(16385), api.ErrLong)
	opened(t, d, "12", patterned(size-30-28-27))

	l = opened(t, made(t, 16))
	is(t, "all but an empty text", l.Add(patterned(size-28-28)), api.OK)
	is(t, "an empty text", l.Add(""), api.OK)
	if l.Left() != 0 || l.Count() != 2 || l.Add("") != api.ErrSpace {
		t.Errorf("%d left, %d texts", l.Left(), l.Count())
	}
}

// P12.2: again and again anew, and added to between.
func TestRenew(t *testing.T) {
	d := made(t, 17)
	l := opened(t, d)
	for i := range 600 { // so that the number gets a second byte
		text := patterned(i)
		is(t, "Renew", l.Renew(text), api.OK)
		has(t, l, text)
		is(t, "Add", l.Add("more"), api.OK)
		if l.Left() != 7*128-28-i-32 || d.Hangs() != 0 {
			t.Errorf("%d left; %d hang", l.Left(), d.Hangs())
		}
		if i%20 == 0 {
			l = opened(t, d, text, "more")
		}
	}
}

// P12.2: what fits into the other half, however full this one is, however
// long the text.
func TestRenewRefuses(t *testing.T) {
	d := made(t, 17)
	l := opened(t, d)
	full := patterned(7*128 - 28)
	is(t, "Add", l.Add(full), api.OK)
	steps := d.Steps()
	for _, text := range []string{full + "x", full + full, patterned(16385)} {
		is(t, "Renew", l.Renew(text), api.ErrSpace)
		if l.Count() != 1 || l.Left() != 0 || d.Steps() != steps || l.Err() != api.OK {
			t.Errorf("a text that is refused does something: %d, %d, %d, %v", l.Count(), l.Left(), d.Steps(), l.Err())
		}
	}
	opened(t, d, full)
	is(t, "Renew", l.Renew(full[1:]+"y"), api.OK)
	has(t, l, full[1:]+"y")
	if l.Left() != 0 {
		t.Errorf("%d left", l.Left())
	}

	d = made(t, 4096)
	l = opened(t, d)
	long := patterned(2047*128 - 28)
	is(t, "Renew with one byte too many", l.Renew(long+"x"), api.ErrSpace)
	is(t, "Renew with more than 16384 bytes", l.Renew(long), api.OK)
	opened(t, d, long)
	is(t, "Renew with 16385", l.Renew(long[:16385]), api.OK)
	opened(t, d, long[:16385])
}

// P12.2: a mark's number doesn't go round.
func TestLastNumber(t *testing.T) {
	d := disked(t, laid(16, "", mark(math.MaxUint64, 1), "", framed("old")))
	l := opened(t, d, "old")
	is(t, "Renew", l.Renew("new"), api.OK)
	opened(t, d, "new")
}

// P12.2: a log that is lost does nothing more, and tells by what.
func TestLost(t *testing.T) {
	const free = 7*128 - 29 - 30
	for renew := range 2 {
		for fuse := range 13 {
			d := disked(t, laid(16, "", "", framed("a", "bb"), "garbage"))
			l := opened(t, d, "a", "bb")
			d.Fuse(fuse)
			do := l.Add
			if renew == 1 {
				do = l.Renew
			}
			if do(patterned(200)) == api.OK {
				if fuse < 3 {
					t.Errorf("%d steps were enough", fuse)
				}
				continue
			}
			d.Crash(0)
			steps, before := d.Steps(), image(d)
			for _, text := range []string{"", "x", patterned(16385), patterned(300000)} {
				is(t, "Add to a log that is lost", l.Add(text), api.ErrPower)
				is(t, "Renew of a log that is lost", l.Renew(text), api.ErrPower)
			}
			if l.Err() != api.ErrPower || l.Count() != 2 || l.Left() != free || d.Steps() != steps || image(d) != before {
				t.Errorf("%d steps: Err %v, Count %d, Left %d, %d steps more", fuse, l.Err(), l.Count(), l.Left(), d.Steps()-steps)
			}
			opened(t, d, "a", "bb")
		}
	}
}

// P12.2: nor one whose power was gone ahead of what was asked.
func TestLostAtOnce(t *testing.T) {
	for renew := range 2 {
		d := disked(t, laid(16, "", "", framed("a"), ""))
		l := opened(t, d, "a")
		d.Fuse(0)
		d.Sync()
		is(t, "Err, as long as nothing was asked", l.Err(), api.OK)
		is(t, "a text too long", l.Add(patterned(16385)), api.ErrLong)
		is(t, "one that doesn't fit", l.Renew(patterned(16385)), api.ErrSpace)
		is(t, "Err behind these", l.Err(), api.OK)
		if renew == 1 {
			is(t, "Renew", l.Renew("x"), api.ErrPower)
		} else {
			is(t, "Add", l.Add("x"), api.ErrPower)
		}
		is(t, "Err", l.Err(), api.ErrPower)
		d.Crash(0)
		is(t, "Err, with the power there again", l.Err(), api.ErrPower)
		opened(t, d, "a")
	}
}

// P12.2: a nil log.
func TestNil(t *testing.T) {
	var l *log.Log
	for _, text := range []string{"", "x", patterned(16385)} {
		is(t, "Add", l.Add(text), api.ErrNil)
		is(t, "Renew", l.Renew(text), api.ErrNil)
	}
	is(t, "Err", l.Err(), api.ErrNil)
	if l.Count() != 0 || l.Left() != 0 {
		t.Errorf("nil has %d texts, %d bytes", l.Count(), l.Left())
	}
}

// P12.2: how many bytes a text needs.
func TestNeed(t *testing.T) {
	for n, want := range map[int]int{
		0: 28, 1: 29, 100: 128, 16384: 16412, 16385: 16413, 1 << 30: 1<<30 + 28,
		math.MaxInt - 29: math.MaxInt - 1, math.MaxInt - 28: math.MaxInt, math.MaxInt - 27: math.MaxInt, math.MaxInt: math.MaxInt,
	} {
		if got := log.Need(n); got != want {
			t.Errorf("Need(%d) = %d, wanted %d", n, got, want)
		}
	}
	for _, n := range []int{-1, -28, -29, math.MinInt} {
		if got := log.Need(n); got != 28 {
			t.Errorf("Need(%d) = %d", n, got)
		}
	}
}

// keeps gives how many bytes a crash keeps, of so many: the numbers near a
// sector's end, and each so many-th.
func keeps(hangs, stride int) []int {
	var out []int
	for keep := range hangs + 1 {
		if keep%128 <= 1 || keep%128 == 127 || keep%stride == 0 {
			out = append(out, keep)
		}
	}
	return out
}

// crashes goes through the disks that are left where the power goes behind
// each number of steps, whatever is kept; and tells of each whether what was
// done was answered with OK.
func crashes(t *testing.T, start string, stride int, ready func(d *disk.Disk) func() api.Errno) iter.Seq2[*disk.Disk, bool] {
	burnt := func(fuse int) (*disk.Disk, bool) {
		d := disked(t, start)
		do := ready(d)
		d.Fuse(fuse)
		return d, do() == api.OK
	}
	return func(yield func(*disk.Disk, bool) bool) {
		for fuse, done := 0, false; !done; fuse++ {
			d, _ := burnt(fuse)
			for _, keep := range keeps(d.Hangs(), stride) {
				d, done = burnt(fuse)
				d.Crash(keep)
				if !yield(d, done) {
					return
				}
			}
		}
	}
}

// open opens a disk that may have gone down: nothing is ready ahead of it.
func open(d *disk.Disk) func() api.Errno {
	return func() api.Errno {
		_, _, err := log.Open(d)
		return err
	}
}

// survives holds what is opened behind each crash against the texts ahead of
// what was under way, and behind it.
func survives(t *testing.T, start string, stride int, ready func(d *disk.Disk) func() api.Errno, ahead, behind []string) {
	t.Helper()
	seen := map[string]bool{}
	for d, done := range crashes(t, start, stride, ready) {
		left := image(d)
		if seen[left] && !done {
			continue
		}
		seen[left] = true
		_, texts, err := log.Open(d)
		if err != api.OK || !slices.Equal(texts, behind) && (done || !slices.Equal(texts, ahead)) {
			t.Fatalf("behind a crash: %.40q, %v", texts, err)
		}
		steps := d.Steps()
		l := opened(t, d, texts...)
		if d.Steps() != steps {
			t.Fatal("what was opened is wiped again")
		}
		is(t, "Add behind a crash", l.Add("x"), api.OK)
		opened(t, d, append(slices.Clone(texts), "x")...)
		if len(seen)%8 == 1 {
			for again := range crashes(t, left, 17, open) { // in opening
				opened(t, again, texts...)
			}
		}
	}
}

// P12.3: wherever the power goes in adding.
func TestAddSurvives(t *testing.T) {
	t.Parallel()
	for _, c := range []struct {
		texts []string
		text  string
	}{
		{nil, ""}, {nil, "a"}, {[]string{"a"}, "b"}, {[]string{patterned(60)}, patterned(100)}, {[]string{patterned(99)}, "xy"},
		{[]string{patterned(100)}, patterned(30)}, {[]string{"a", "b", "c"}, strings.Repeat("\x00", 40)}, {[]string{"a"}, framed("a", "b")},
		{[]string{patterned(70)}, patterned(230)}, {[]string{patterned(97)}, frame(3, 3, "abc") + frame(2, 3, "abc")},
	} {
		behind := append(slices.Clone(c.texts), c.text)
		survives(t, laid(16, mark(2, 0), "", framed(c.texts...), framed("old")+patterned(99)), 1, adds(t, c.text, c.texts...), c.texts, behind)
		survives(t, laid(16, mark(2, 0), mark(3, 1), framed("old"), framed(c.texts...)), 7, adds(t, c.text, c.texts...), c.texts, behind)
	}
}

// P12.3: wherever the power goes in beginning anew.
func TestRenewSurvives(t *testing.T) {
	t.Parallel()
	for _, start := range []string{
		laid(16, "", "", framed("a", "b"), ""),
		laid(16, "", "", framed("a", "b"), framed("a", "c")),
		laid(16, mark(2, 0), mark(1, 1), framed("a", "b"), framed(patterned(300))),
		laid(17, mark(254, 0), mark(255, 1), framed("all"), framed("a", "b")),
	} {
		for _, text := range []string{"", "all", patterned(140)} {
			survives(t, start, 31, renews(t, text, "a", "b"), []string{"a", "b"}, []string{text})
		}
	}
}

// lives does what the bytes tell, three of them at a time: texts are added, it
// is begun anew, the power goes; what there is stays, as long as it may.
func lives(t *testing.T, told []byte) {
	t.Helper()
	d := made(t, 16)
	l, texts := opened(t, d), []string(nil)
	for ; len(told) >= 3; told = told[3:] {
		text := patterned(int(told[1]))
		switch told[0] % 6 {
		case 0, 1, 2:
			err, fits := l.Add(text), 28+len(text) <= 7*128-len(framed(texts...))
			if fits != (err != api.ErrSpace) {
				t.Fatalf("Add: %v", err)
			}
			behind := append(slices.Clone(texts), text)
			if l, texts = next(t, d, l, int(told[2]), texts, behind, err); err == api.OK {
				has(t, l, behind...)
			}
		case 3:
			err := l.Renew(text)
			l, texts = next(t, d, l, int(told[2])*5, texts, []string{text}, err)
		case 4:
			d.Fuse(int(told[1]) % 16)
		case 5:
			d.Crash(int(told[2]))
			l = opened(t, d, texts...)
		}
	}
	d.Crash(0)
	opened(t, d, texts...)
}

// next gives the log and its texts behind what was done to it; where the power
// went, behind a crash and, if it goes in opening, others.
func next(t *testing.T, d *disk.Disk, l *log.Log, keep int, ahead, behind []string, err api.Errno) (*log.Log, []string) {
	t.Helper()
	if err == api.OK {
		return l, behind
	}
	if err == api.ErrSpace {
		has(t, l, ahead...)
		return l, ahead
	}
	is(t, "what a log is lost by", err, api.ErrPower)
	d.Crash(keep)
	for fuse := 0; fuse < 3; fuse++ {
		d.Fuse(fuse)
		if _, _, err := log.Open(d); err == api.OK {
			break
		}
		d.Crash(keep / 2)
	}
	d.Fuse(-1)
	l, texts, err := log.Open(d)
	if err != api.OK || !slices.Equal(texts, ahead) && !slices.Equal(texts, behind) {
		t.Fatalf("behind a crash: %.40q, %v", texts, err)
	}
	return l, texts
}

// P12.3: a long life, with many crashes.
func TestLives(t *testing.T) {
	t.Parallel()
	r := rand.New(rand.NewPCG(12, 3))
	for range 60 {
		told := make([]byte, 3*60)
		for i := range told {
			told[i] = byte(r.Uint32())
		}
		lives(t, told)
	}
}

// P1: every call ends and none panics, whatever bytes are there.
func FuzzEnds(f *testing.F) {
	f.Add([]byte{}, "", 0)
	f.Add([]byte{0, 3, 0, 4, 1, 0, 1, 200, 99, 3, 10, 0, 4, 9, 9, 3, 50, 60}, framed("a", "b"), 256)
	f.Add([]byte{5, 0, 1}, mark(3, 1), 128)
	f.Add([]byte{}, frame(1, math.MaxUint32, "x"), math.MaxInt)
	f.Add([]byte{}, "CKMK", -1)
	f.Fuzz(func(t *testing.T, told []byte, bytes string, at int) {
		lives(t, told)
		end, texts := 0, []string(nil)
		for place, text := range log.Frames(bytes) {
			if end += log.Need(len(text)); place != end {
				t.Errorf("Frames(%x) has the place %d, wanted %d", bytes, place, end)
			}
			texts = append(texts, text)
		}
		if !strings.HasPrefix(bytes, framed(texts...)) {
			t.Errorf("Frames(%x) = %q", bytes, texts)
		}
		if need := log.Need(at); need < 28 || at > 0 && need < at {
			t.Errorf("Need(%d) = %d", at, need)
		}
		// A disk on which anything stands.
		const size = 16 * 128
		at = max(0, min(at, size-len(bytes)))
		d := disked(t, filled("", at)+filled(bytes[:min(len(bytes), size)], size-at))
		l, texts, err := log.Open(d)
		if err != api.OK {
			t.Fatalf("Open: %v", err)
		}
		left := l.Left()
		opened(t, d, texts...)
		is(t, "Add", l.Add("x"), map[bool]api.Errno{true: api.OK, false: api.ErrSpace}[left >= 29])
		is(t, "Renew", l.Renew("y"), api.OK)
		opened(t, d, "y")
	})
}
