package meta_test

import (
	"bytes"
	"math"
	"slices"
	"testing"

	"tandem/api"
	"tandem/disk"
	"tandem/meta"
	"tandem/slot"
)

// made tells a new disk.
func made(t *testing.T, sectors int) *disk.Disk {
	t.Helper()
	d, err := disk.New(sectors)
	if d == nil || err != api.OK {
		t.Fatalf("New(%d) = %p, %v", sectors, d, err)
	}
	return d
}

// out tells a disk that is out, though a meta was saved at 0.
func out(t *testing.T, sectors int) *disk.Disk {
	t.Helper()
	d := made(t, sectors)
	ok(t, "Save", meta.Save(d, 0, edges()[2]))
	ok(t, "Fuse", d.Fuse(0))
	is(t, "Flush", d.Flush(), api.ErrBroken)
	return d
}

// copied tells a copy of a value: behind a type parameter, since vet would not have a disk copied.
func copied[T any](p *T) *T {
	c := *p
	return &c
}

// unmade tells disks that nobody made.
func unmade(t *testing.T) map[string]*disk.Disk {
	t.Helper()
	d := made(t, 4)
	ok(t, "Save", meta.Save(d, 0, edges()[2]))
	return map[string]*disk.Disk{"nil": nil, "new(disk.Disk)": new(disk.Disk), "a literal": {}, "a copy": copied(d)}
}

// loads and misses hold what Load answers against what is asked for.
func loads(t *testing.T, d *disk.Disk, at int, want api.Meta) {
	t.Helper()
	if got, err := meta.Load(d, at); got != want || err != api.OK {
		t.Errorf("Load(%d) = %v, %v, not %v", at, got, err, want)
	}
}

func misses(t *testing.T, what string, d *disk.Disk, at int, want api.Errno) {
	t.Helper()
	if got, err := meta.Load(d, at); got != (api.Meta{}) || err != want {
		t.Errorf("%s: Load(%d) = %v, %v, not zero, %v", what, at, got, err, want)
	}
}

// read tells a sector, firm or loose.
func read(t *testing.T, d *disk.Disk, at int) []byte {
	t.Helper()
	b, err := d.Read(at)
	ok(t, "Read", err)
	return b
}

// firm tells the sectors of a disk as they would be behind a crash that loses all that is loose.
func firm(t *testing.T, d *disk.Disk) [][]byte {
	t.Helper()
	c := d.Clone()
	ok(t, "Crash", c.Crash(nil, 0))
	l := make([][]byte, c.Sectors())
	for at := range l {
		l[at] = read(t, c, at)
	}
	return l
}

// same holds a disk against a clone from ahead of a call: its sectors, its changes, what is loose, whether it is out.
func same(t *testing.T, call string, d, was *disk.Disk) {
	t.Helper()
	if d.Up() != was.Up() || d.Ops() != was.Ops() || !slices.Equal(d.Loose(), was.Loose()) || !slices.EqualFunc(firm(t, d), firm(t, was), bytes.Equal) {
		t.Errorf("%s changed the disk", call)
	}
	for at := range d.Sectors() {
		b, err := d.Read(at)
		a, before := was.Read(at)
		if !bytes.Equal(a, b) || err != before {
			t.Errorf("%s changed what sector %d is read as", call, at)
		}
	}
}

// wrongPlaces tells places at which a disk, of so many sectors, has no slot: below 0, the last sector, beyond.
func wrongPlaces(sectors int) []int {
	return []int{-1, -2, math.MinInt, math.MinInt + 1, sectors - 1, sectors, sectors + 1, 1 << 32, math.MaxInt - 1, math.MaxInt}
}

// refusesSaves holds what Save answers, of metas that may be, against what is asked for, and of others too; and that it changes nothing.
func refusesSaves(t *testing.T, d *disk.Disk, at int, want, wantOfWrongs api.Errno) {
	t.Helper()
	was := d.Clone()
	for _, m := range edges()[:3] {
		is(t, "Save", meta.Save(d, at, m), want)
	}
	for _, p := range places() {
		for _, n := range []int{p.least - 1, p.greatest + 1} {
			m := edges()[2]
			*p.of(&m) = n
			is(t, "Save of a meta that may not be", meta.Save(d, at, m), wantOfWrongs)
		}
	}
	if was != nil {
		same(t, "what is refused", d, was)
	}
}

// P6.2, P6.3: what is saved is loaded, of all fields' bounds, where none was and behind another one, at the first and the last two sectors and in between, by four changes; the slot has the meta's bytes as slot.Save keeps them; the other sectors stay.
func TestSaveAndLoad(t *testing.T) {
	for at := range 4 {
		d := made(t, 5)
		want := firm(t, d)
		misses(t, "a new disk", d, at, api.ErrMissing)
		for i, m := range edges() {
			ok(t, "Save", meta.Save(d, at, m))
			loads(t, d, at, m)
			b, err := slot.Bytes(i+1, laid(m))
			ok(t, "Bytes", err)
			want[at], want[at+1] = b, b
			if !slices.EqualFunc(firm(t, d), want, bytes.Equal) || d.Ops() != 4*(i+1) {
				t.Errorf("behind Save number %d at %d, of %v, the sectors are %v, not %v; changes: %d", i+1, at, m, firm(t, d), want, d.Ops())
			}
		}
	}
	d := made(t, 1024)
	ok(t, "Save", meta.Save(d, 1022, edges()[2]))
	loads(t, d, 1022, edges()[2])
	loads(t, d, 1021, edges()[2])
	misses(t, "two sectors ahead", d, 1020, api.ErrMissing)
}

// P6.2: what slot.Save kept of a meta's bytes is loaded; both sectors count, as slot.Load has it; and nothing is changed.
func TestLoadOfWhatASlotHas(t *testing.T) {
	for _, m := range edges() {
		d := made(t, 3)
		ok(t, "Save", slot.Save(d, 0, laid(m)))
		was := d.Clone()
		loads(t, d, 0, m)
		same(t, "Load", d, was)
		late := m
		late.Boot = most - m.Boot
		b, err := slot.Bytes(9, laid(late))
		ok(t, "Bytes", err)
		for turn := range 2 {
			e := d.Clone()
			ok(t, "Write", e.Write(turn, b))
			loads(t, e, 0, late)
		}
	}
}

// strange tells records that are not the bytes of a meta.
func strange() [][]byte {
	l := [][]byte{nil, {0}, make([]byte, 25), make([]byte, 27), make([]byte, 40), bytes.Repeat([]byte{255}, 26), laid(edges()[2])[:25], append(laid(edges()[2]), 0), append([]byte{0}, laid(edges()[2])...)}
	for _, p := range places() {
		for _, m := range edges()[:3] {
			b := laid(m)
			p.lay(b, uint64(p.greatest+p.more+1))
			l = append(l, b)
		}
	}
	return l
}

// P6.2: a slot whose record is not the bytes of a meta is corrupt, also where a meta was saved ahead; a Save goes on behind it.
func TestLoadOfStrangeRecords(t *testing.T) {
	for _, rec := range strange() {
		d := made(t, 2)
		ok(t, "Save", slot.Save(d, 0, rec))
		misses(t, "no meta", d, 0, api.ErrCorrupt)
		ok(t, "Save", meta.Save(d, 0, edges()[2]))
		loads(t, d, 0, edges()[2])
		ok(t, "Save", slot.Save(d, 0, rec))
		was := d.Clone()
		misses(t, "no meta behind one", d, 0, api.ErrCorrupt)
		same(t, "Load", d, was)
		b, err := slot.Bytes(9, rec)
		ok(t, "Bytes", err)
		ok(t, "Save", meta.Save(d, 0, edges()[2]))
		ok(t, "Write", d.Write(1, b))
		misses(t, "no meta in the newest sector", d, 0, api.ErrCorrupt)
		ok(t, "Crash", d.Crash(nil, 0))
		loads(t, d, 0, edges()[2])
	}
}

// P6.2: the slot's own errors: a place that has not two sectors; nothing was saved; no sector is right; a disk that is out, ahead of a place that there is not.
func TestLoadOfWhatIsWrong(t *testing.T) {
	for sectors := 1; sectors < 5; sectors++ {
		d := made(t, sectors)
		for _, at := range wrongPlaces(sectors) {
			misses(t, "a place that there is not", d, at, api.ErrRange)
		}
	}
	d := made(t, 3)
	misses(t, "nothing saved", d, 0, api.ErrMissing)
	ok(t, "Save", meta.Save(d, 0, edges()[2]))
	misses(t, "the last sector", d, 2, api.ErrRange)
	ok(t, "Turn", d.Turn(0, 12, 1))
	loads(t, d, 0, edges()[2])
	ok(t, "Turn", d.Turn(1, 40, 128))
	misses(t, "both turned", d, 0, api.ErrCorrupt)
	e := out(t, 4)
	for _, at := range append(wrongPlaces(4), 0, 1, 2) {
		misses(t, "a disk that is out", e, at, api.ErrBroken)
	}
	ok(t, "Crash", e.Crash(nil, 0))
	ok(t, "Save", slot.Save(e, 0, make([]byte, 25)))
	ok(t, "Fuse", e.Fuse(0))
	is(t, "Flush", e.Flush(), api.ErrBroken)
	misses(t, "a disk that is out, with no meta", e, 0, api.ErrBroken)
}

// P6.2: a meta that may not be is refused, whichever field it is, and changes nothing of what was saved.
func TestSaveOfMetasThatMayNotBe(t *testing.T) {
	d := made(t, 2)
	ok(t, "Save", meta.Save(d, 0, edges()[2]))
	was := d.Clone()
	for _, m := range wrongs() {
		if err := meta.Save(d, 0, m); err != api.ErrArg {
			t.Errorf("Save(%v) = %v, not %v", m, err, api.ErrArg)
		}
	}
	same(t, "what is refused", d, was)
	loads(t, d, 0, edges()[2])
}

// P6.2: a meta that may not be is told ahead of all that the slot says: a disk that is out, a place that there is not, a slot that is full; a disk that is out ahead of a place that there is not.
func TestOrderOfSavesErrors(t *testing.T) {
	for sectors := 1; sectors < 5; sectors++ {
		for _, at := range wrongPlaces(sectors) {
			refusesSaves(t, made(t, sectors), at, api.ErrRange, api.ErrArg)
		}
	}
	d := out(t, 4)
	for _, at := range append(wrongPlaces(4), 0, 1, 2) {
		refusesSaves(t, d, at, api.ErrBroken, api.ErrArg)
	}
	ok(t, "Crash", d.Crash(nil, 0))
	loads(t, d, 0, edges()[2])
}

// P6.2: where the slot's number is 2^40 nothing more is saved; what was saved with it is loaded.
func TestSaveWhenFull(t *testing.T) {
	b, err := slot.Bytes(most-1, laid(edges()[1]))
	ok(t, "Bytes", err)
	d := made(t, 2)
	ok(t, "Write", d.Write(0, b))
	ok(t, "Save", meta.Save(d, 0, edges()[2]))
	loads(t, d, 0, edges()[2])
	refusesSaves(t, d, 0, api.ErrFull, api.ErrArg)
	loads(t, d, 0, edges()[2])
}

// P6.2, rule 5: a disk that nobody made is told ahead of all else that is wrong.
func TestDisksThatNobodyMade(t *testing.T) {
	for name, d := range unmade(t) {
		for _, at := range append(wrongPlaces(4), 0, 1) {
			misses(t, name, d, at, api.ErrNil)
			refusesSaves(t, d, at, api.ErrNil, api.ErrNil)
		}
	}
}
