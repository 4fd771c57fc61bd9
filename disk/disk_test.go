package disk_test

import (
	"math"
	"math/rand/v2"
	"slices"
	"testing"

	"cashier/api"
	"cashier/disk"
)

// made gives a new disk of so many sectors.
func made(t *testing.T, sectors int) *disk.Disk {
	t.Helper()
	d, err := disk.New(sectors)
	if d == nil || err != api.OK {
		t.Fatalf("New(%d) = %v, %v", sectors, d, err)
	}
	return d
}

// filled gives the block of which each byte is b.
func filled(b byte) api.Block {
	var out api.Block
	for i := range out {
		out[i] = b
	}
	return out
}

// is holds an error against the one that is wanted.
func is(t *testing.T, what string, got, want api.Errno) {
	t.Helper()
	if got != want {
		t.Errorf("%s: %v, wanted %v", what, got, want)
	}
}

// all gives what All goes through.
func all(t *testing.T, d *disk.Disk) []api.Block {
	t.Helper()
	var out []api.Block
	for at, b := range d.All() {
		if at != len(out) {
			t.Fatalf("All has the place %d behind %d sectors", at, len(out))
		}
		out = append(out, b)
	}
	return out
}

// noSectors gives places that a disk of so many sectors doesn't have.
func noSectors(sectors int) []int {
	return []int{-1, -2, -sectors, math.MinInt, sectors, sectors + 1, 4096, math.MaxInt}
}

// P11.1: how many sectors there may be, and what is on a new disk.
func TestNew(t *testing.T) {
	for _, sectors := range []int{15, 4097, 0, 1, 2, -1, -16, 1 << 20, math.MinInt, math.MaxInt} {
		if d, err := disk.New(sectors); d != nil || err != api.ErrArg {
			t.Errorf("New(%d) = %v, %v", sectors, d, err)
		}
	}
	for _, sectors := range []int{16, 17, 1000, 4095, 4096} {
		d := made(t, sectors)
		if d.Sectors() != sectors || d.Down() || d.Steps() != 0 || d.Hangs() != 0 {
			t.Errorf("New(%d): %d sectors, %v, %d steps, %d hang", sectors, d.Sectors(), d.Down(), d.Steps(), d.Hangs())
		}
		for at := range sectors {
			if b, err := d.Read(at); b != (api.Block{}) || err != api.OK || d.Lasts(at) != (api.Block{}) {
				t.Errorf("New(%d): sector %d has %v, %v", sectors, at, b, err)
			}
		}
		if got := all(t, d); len(got) != sectors || slices.ContainsFunc(got, func(b api.Block) bool { return b != api.Block{} }) {
			t.Errorf("New(%d): All has %d sectors, or other bytes than 0", sectors, len(got))
		}
	}
}

// P11.1: what was written last is read, and nothing else is another thing.
func TestReadIsWhatWasWrittenLast(t *testing.T) {
	d := made(t, 16)
	want := make([]api.Block, 16)
	for i, at := range []int{3, 15, 0, 3, 3, 7, 15, 0} {
		b := filled(byte(i + 1))
		b[i] = 200
		want[at] = b
		is(t, "write", d.Write(at, b), api.OK)
		b[5] = 77
		if i == 4 {
			is(t, "sync", d.Sync(), api.OK)
		}
		for at := range want {
			if got, err := d.Read(at); got != want[at] || err != api.OK {
				t.Errorf("behind write %d sector %d has %v, %v", i, at, got, err)
			}
		}
	}
}

// P11.1: sectors that aren't there.
func TestNoSuchSector(t *testing.T) {
	d := made(t, 20)
	d.Write(19, filled(9))
	for _, at := range noSectors(20) {
		if b, err := d.Read(at); b != (api.Block{}) || err != api.ErrArg {
			t.Errorf("Read(%d) = %v, %v", at, b, err)
		}
		is(t, "Write", d.Write(at, filled(1)), api.ErrArg)
		if b := d.Lasts(at); b != (api.Block{}) {
			t.Errorf("Lasts(%d) = %v", at, b)
		}
	}
	if d.Hangs() != 128 || d.Steps() != 1 || d.Down() {
		t.Errorf("%d hang, %d steps, %v", d.Hangs(), d.Steps(), d.Down())
	}
}

// P11.1: which error comes first.
func TestErrorsOrder(t *testing.T) {
	d := made(t, 16)
	d.Fuse(0)
	if b, err := d.Read(3); b != (api.Block{}) || err != api.OK {
		t.Errorf("Read with a fuse of 0: %v", err)
	}
	for _, at := range noSectors(16) {
		is(t, "Write to no sector with a fuse of 0", d.Write(at, filled(1)), api.ErrArg)
	}
	if d.Down() {
		t.Error("the power is gone by a write to no sector")
	}
	is(t, "Write with a fuse of 0", d.Write(3, filled(1)), api.ErrPower)
	if !d.Down() || d.Hangs() != 0 || d.Steps() != 0 {
		t.Errorf("down %v, %d hang, %d steps", d.Down(), d.Hangs(), d.Steps())
	}
	for _, at := range append(noSectors(16), 0, 3, 15) {
		b, err := d.Read(at)
		is(t, "Read without power", err, api.ErrPower)
		if b != (api.Block{}) {
			t.Errorf("Read(%d) without power = %v", at, b)
		}
		is(t, "Write without power", d.Write(at, filled(1)), api.ErrPower)
	}
	is(t, "Sync without power", d.Sync(), api.ErrPower)
}

// P11.1: so many steps as the fuse tells, writes or syncs.
func TestFuse(t *testing.T) {
	for fuse := range 12 {
		for ending := range 2 {
			d := made(t, 16)
			d.Write(1, filled(1))
			d.Fuse(fuse)
			for i := range fuse {
				if i%3 == 1 {
					is(t, "Sync", d.Sync(), api.OK)
				} else {
					is(t, "Write", d.Write(i, filled(byte(i))), api.OK)
				}
				d.Write(-1, api.Block{}) // no step
				d.Read(1)                // nor is this
			}
			hung, lasted := d.Hangs(), all(t, d)
			if d.Down() || d.Steps() != fuse+1 {
				t.Errorf("fuse %d: down %v, %d steps", fuse, d.Down(), d.Steps())
			}
			more := d.Sync
			if ending == 1 {
				more = func() api.Errno { return d.Write(0, filled(99)) }
			}
			for range 2 {
				is(t, "a step too many", more(), api.ErrPower)
				if !d.Down() || d.Steps() != fuse+1 || d.Hangs() != hung || !slices.Equal(all(t, d), lasted) {
					t.Errorf("fuse %d: down %v, %d steps, %d hang", fuse, d.Down(), d.Steps(), d.Hangs())
				}
			}
		}
	}
}

// P11.1: below 0 any number; what is told last counts.
func TestFuseAnew(t *testing.T) {
	for _, fuse := range []int{-1, -2, math.MinInt, math.MaxInt} {
		d := made(t, 16)
		d.Fuse(0)
		d.Fuse(fuse)
		for i := range 300 {
			is(t, "Write", d.Write(i%16, filled(1)), api.OK)
		}
		is(t, "Sync", d.Sync(), api.OK)
	}
	d := made(t, 16)
	for range 20000 { // a new disk has none
		is(t, "Sync", d.Sync(), api.OK)
	}
	d.Fuse(1)
	d.Fuse(2)
	is(t, "first", d.Sync(), api.OK)
	is(t, "second", d.Sync(), api.OK)
	is(t, "third", d.Sync(), api.ErrPower)
	d.Fuse(5)
	if !d.Down() {
		t.Error("a fuse brings the power")
	}
	is(t, "with a fuse, without power", d.Sync(), api.ErrPower)
	is(t, "likewise", d.Write(0, filled(1)), api.ErrPower)
	d.Crash(0)
	for range 20 {
		is(t, "behind a crash", d.Sync(), api.OK)
	}
}

// P11.1: all lasts behind a sync, and nothing ahead of it.
func TestSync(t *testing.T) {
	d := made(t, 16)
	is(t, "Sync of nothing", d.Sync(), api.OK)
	for i, at := range []int{4, 2, 4, 15} {
		d.Write(at, filled(byte(i+1)))
		if d.Hangs() != 128*(i+1) || d.Lasts(at) != (api.Block{}) {
			t.Errorf("%d hang, and there lasts %v", d.Hangs(), d.Lasts(at))
		}
	}
	is(t, "Sync", d.Sync(), api.OK)
	want := make([]api.Block, 16)
	want[2], want[4], want[15] = filled(2), filled(3), filled(4)
	if d.Hangs() != 0 || d.Steps() != 6 || !slices.Equal(all(t, d), want) {
		t.Errorf("%d hang, %d steps, %v", d.Hangs(), d.Steps(), all(t, d))
	}
	d.Write(4, filled(9))
	if d.Lasts(4) != filled(3) || d.Hangs() != 128 {
		t.Errorf("%d hang, and there lasts %v", d.Hangs(), d.Lasts(4))
	}
	d.Crash(0)
	if b, err := d.Read(4); b != filled(3) || err != api.OK || d.Lasts(4) != b {
		t.Errorf("Read = %v, %v", b, err)
	}
}

// P11.2: byte by byte, in the order in which was written.
func TestCrash(t *testing.T) {
	writes := []struct {
		at int
		b  byte
	}{{9, 1}, {2, 2}, {9, 3}, {3, 4}, {9, 5}, {15, 6}}
	hangs := 128 * len(writes)
	for keep := -2; keep <= hangs+2; keep++ {
		d := made(t, 16)
		d.Write(9, filled(50))
		d.Write(3, filled(51))
		d.Sync()
		want := all(t, d)
		d.Fuse(len(writes))
		for i, w := range writes {
			is(t, "Write", d.Write(w.at, filled(w.b)), api.OK)
			for j := range 128 {
				if i*128+j < keep {
					want[w.at][j] = w.b
				}
			}
		}
		if keep%2 == 0 {
			d.Sync() // the power goes; or it goes with a fuse that would end
		}
		if d.Hangs() != hangs || d.Down() != (keep%2 == 0) {
			t.Fatalf("%d hang, down %v", d.Hangs(), d.Down())
		}
		d.Crash(keep)
		if !slices.Equal(all(t, d), want) {
			t.Errorf("Crash(%d) leaves %v", keep, all(t, d))
		}
		for at := range want {
			if b, err := d.Read(at); b != want[at] || err != api.OK || d.Lasts(at) != b {
				t.Errorf("behind Crash(%d) sector %d has %v, %v", keep, at, b, err)
			}
		}
		if d.Hangs() != 0 || d.Down() || d.Steps() != 3+len(writes) {
			t.Errorf("behind Crash(%d): %d hang, down %v, %d steps", keep, d.Hangs(), d.Down(), d.Steps())
		}
		for range 10 {
			is(t, "a step behind a crash", d.Sync(), api.OK)
		}
		if !slices.Equal(all(t, d), want) {
			t.Errorf("a sync behind Crash(%d) brings back what was lost", keep)
		}
	}
}

// P11.2: a fuse that is left doesn't outlast a crash.
func TestCrashEndsFuse(t *testing.T) {
	for _, fuse := range []int{0, 1, 3} {
		d := made(t, 16)
		d.Fuse(fuse)
		d.Crash(0)
		for range 10 {
			is(t, "Write", d.Write(1, filled(1)), api.OK)
		}
		d.Crash(math.MinInt)
		d.Crash(math.MaxInt)
		if d.Lasts(1) != (api.Block{}) || d.Steps() != 10 {
			t.Errorf("there lasts %v behind %d steps", d.Lasts(1), d.Steps())
		}
	}
}

// P11.2: all sectors that last, as often as one likes, and left anywhere.
func TestAll(t *testing.T) {
	d := made(t, 16)
	rows := d.All()
	d.Write(3, filled(3))
	d.Sync()
	d.Write(4, filled(4))
	for range 2 {
		var got []api.Block
		for at, b := range rows {
			if at != len(got) || b != d.Lasts(at) || (b != api.Block{}) != (at == 3) {
				t.Errorf("sector %d: %v", at, b)
			}
			got = append(got, b)
			b[0]++ // a copy of one's own
		}
		if len(got) != 16 {
			t.Errorf("%d sectors", len(got))
		}
	}
	for stop := range 16 {
		last := -1
		for at := range rows {
			if last = at; at == stop {
				break
			}
		}
		if last != stop {
			t.Errorf("left at %d, wanted %d", last, stop)
		}
	}
	d.Fuse(0)
	d.Sync()
	if got := all(t, d); len(got) != 16 || got[3] != filled(3) || got[4] != (api.Block{}) {
		t.Errorf("without power there last %v", got)
	}
	d.Crash(1)
	if got := all(t, d); got[4] != (api.Block{4}) {
		t.Errorf("behind a crash there lasts %v", got[4])
	}
}

// P11.2: a nil disk.
func TestNil(t *testing.T) {
	var d *disk.Disk
	for _, at := range []int{-1, 0, 3, math.MaxInt} {
		b, err := d.Read(at)
		is(t, "Read", err, api.ErrNil)
		is(t, "Write", d.Write(at, filled(1)), api.ErrNil)
		if b != (api.Block{}) || d.Lasts(at) != (api.Block{}) {
			t.Errorf("nil has bytes: %v, %v", b, d.Lasts(at))
		}
	}
	is(t, "Sync", d.Sync(), api.ErrNil)
	d.Fuse(0)
	is(t, "Sync with a fuse", d.Sync(), api.ErrNil)
	d.Crash(1)
	if d.Sectors() != 0 || d.Steps() != 0 || d.Hangs() != 0 || d.Down() || len(all(t, d)) != 0 {
		t.Error("nil has something")
	}
}

// What one disk does is nothing to another one.
func TestTwoDisks(t *testing.T) {
	a, b := made(t, 16), made(t, 16)
	a.Write(1, filled(1))
	a.Sync()
	a.Fuse(0)
	a.Sync()
	if b.Lasts(1) != (api.Block{}) || b.Steps() != 0 || b.Down() || !a.Down() {
		t.Error("what one disk does another one has")
	}
}

// model is a disk told in the plainest way: its bytes, and, one behind the
// other, the bytes that were written since the last sync, with their places.
type model struct {
	bytes [16 * api.Sector]byte
	hangs []placed
	fuse  int
	steps int
	down  bool
}

type placed struct {
	at int
	b  byte
}

func (m *model) step() api.Errno {
	if m.down || m.fuse == 0 {
		m.down = true
		return api.ErrPower
	}
	m.fuse--
	m.steps++
	return api.OK
}

func (m *model) write(at int, b api.Block) api.Errno {
	if !m.down && (at < 0 || at > 15) {
		return api.ErrArg
	}
	if err := m.step(); err != api.OK {
		return err
	}
	for i := range b {
		m.hangs = append(m.hangs, placed{at*api.Sector + i, b[i]})
	}
	return api.OK
}

func (m *model) sync() api.Errno {
	err := m.step()
	if err == api.OK {
		m.settle(len(m.hangs))
	}
	return err
}

func (m *model) settle(keep int) {
	for _, p := range m.hangs[:max(0, min(keep, len(m.hangs)))] {
		m.bytes[p.at] = p.b
	}
	m.hangs = nil
}

func (m *model) crash(keep int) {
	m.settle(keep)
	m.down, m.fuse = false, -1
}

// now gives what is read from the sector.
func (m *model) now(at int) api.Block {
	b := api.Block(m.bytes[at*api.Sector:])
	for _, p := range m.hangs {
		if p.at/api.Sector == at {
			b[p.at%api.Sector] = p.b
		}
	}
	return b
}

// agrees holds the disk against its model.
func (m *model) agrees(t *testing.T, d *disk.Disk) {
	t.Helper()
	if d.Down() != m.down || d.Steps() != m.steps || d.Hangs() != len(m.hangs) || d.Sectors() != 16 {
		t.Fatalf("down %v, %d steps, %d hang; wanted %v, %d, %d", d.Down(), d.Steps(), d.Hangs(), m.down, m.steps, len(m.hangs))
	}
	for at, b := range d.All() {
		if b != api.Block(m.bytes[at*api.Sector:]) || b != d.Lasts(at) {
			t.Fatalf("sector %d: there lasts %v", at, b)
		}
		now, err := d.Read(at)
		if m.down && (err != api.ErrPower || now != api.Block{}) || !m.down && (err != api.OK || now != m.now(at)) {
			t.Fatalf("sector %d is read as %v, %v", at, now, err)
		}
	}
}

// runs does what the bytes tell, four of them at a time, on a disk and on its
// model.
func runs(t *testing.T, told []byte) {
	t.Helper()
	d, m := made(t, 16), &model{fuse: -1}
	for ; len(told) >= 4; told = told[4:] {
		first, second := int(told[1]), int(told[2])
		switch told[0] % 8 {
		case 0, 1, 2, 3:
			b := filled(told[2])
			b[second%128] = told[3]
			is(t, "Write", d.Write(first%18-1, b), m.write(first%18-1, b))
		case 4, 5:
			is(t, "Sync", d.Sync(), m.sync())
		case 6:
			d.Fuse(first%9 - 1)
			m.fuse = first%9 - 1
		case 7:
			keep := first*256 + second - 5
			if first > 20 {
				keep = first * 10
			}
			d.Crash(keep)
			m.crash(keep)
		}
		m.agrees(t, d)
	}
}

// P11.1, P11.2: whatever is done, the disk is what its model is.
func TestModel(t *testing.T) {
	r := rand.New(rand.NewPCG(11, 11))
	for range 150 {
		told := make([]byte, 4*60)
		for i := range told {
			told[i] = byte(r.Uint32())
		}
		runs(t, told)
	}
}

// P11.3: a crash that keeps all, and one that keeps none.
func TestKeepsAllOrNone(t *testing.T) {
	r := rand.New(rand.NewPCG(11, 3))
	for range 300 {
		d := made(t, 16+r.IntN(5))
		for range r.IntN(40) {
			if r.IntN(8) == 0 {
				d.Sync()
			}
			d.Write(r.IntN(d.Sectors()), filled(byte(r.Uint32())))
		}
		want, keep := all(t, d), 0
		if r.IntN(2) == 0 {
			keep = d.Hangs()
			for at := range want {
				want[at], _ = d.Read(at)
			}
		}
		d.Crash(keep)
		if !slices.Equal(all(t, d), want) {
			t.Errorf("a crash that keeps %d leaves %v, wanted %v", keep, all(t, d), want)
		}
	}
}

// P1: every call ends and none panics, whatever is done.
func FuzzEnds(f *testing.F) {
	f.Add([]byte{}, 0)
	f.Add([]byte{0, 4, 1, 2, 7, 0, 6, 0}, -1)
	f.Add([]byte{6, 2, 0, 0, 0, 3, 3, 3, 0, 4, 4, 4, 7, 0, 133, 0}, 17)
	f.Add([]byte{0, 0, 0, 0, 4, 0, 0, 0, 6, 1, 0, 0, 5, 0, 0, 0, 0, 255, 0, 0}, math.MaxInt)
	f.Fuzz(func(t *testing.T, told []byte, n int) {
		runs(t, told)
		d, err := disk.New(n)
		if (err == api.OK) != (n >= 16 && n <= 4096) || (d != nil) != (err == api.OK) {
			t.Errorf("New(%d) = %v, %v", n, d, err)
		}
		d = made(t, 16)
		d.Fuse(n)
		b, err := d.Read(n)
		if err != d.Write(n, b) && n != 0 || d.Lasts(n) != b {
			t.Errorf("sector %d: %v, %v", n, b, err)
		}
		d.Crash(n)
		if d.Down() || d.Hangs() != 0 {
			t.Errorf("Crash(%d): down %v, %d hang", n, d.Down(), d.Hangs())
		}
	})
}
