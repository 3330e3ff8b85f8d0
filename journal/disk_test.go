package journal_test

import (
	"bytes"
	"math"
	"slices"
	"testing"

	"tandem/api"
	"tandem/block"
	"tandem/disk"
	"tandem/journal"
)

// made tells a new disk.
func made(t *testing.T, sectors int) *disk.Disk {
	t.Helper()
	d, err := disk.New(sectors)
	if d == nil || err != api.OK {
		t.Fatalf("New(%d) = %p, %v", sectors, d, err)
	}
	return d
}

// one tells an entry that may be.
func one() api.Entry { return api.Entry{Block: 3, N: 9, Data: filled(1)} }

// out tells a disk that is out, though an entry was written at 0.
func out(t *testing.T, sectors int) *disk.Disk {
	t.Helper()
	d := made(t, sectors)
	ok(t, "Write", journal.Write(d, 0, one()))
	ok(t, "Fuse", d.Fuse(0))
	is(t, "Flush", d.Flush(), api.ErrBroken)
	return d
}

// copied tells a copy of a value: behind a type parameter, since vet would not have a disk copied.
func copied[T any](p *T) *T {
	c := *p
	return &c
}

// unmade tells disks that nobody made.
func unmade(t *testing.T) map[string]*disk.Disk {
	t.Helper()
	d := made(t, 4)
	ok(t, "Write", journal.Write(d, 0, one()))
	return map[string]*disk.Disk{"nil": nil, "new(disk.Disk)": new(disk.Disk), "a literal": {}, "a copy": copied(d)}
}

// last and misses hold what Last answers against what is asked for.
func last(t *testing.T, d *disk.Disk, at int, want api.Entry) {
	t.Helper()
	if got, err := journal.Last(d, at); !alike(got, want) || err != api.OK {
		t.Errorf("Last(%d) = %v, %v, not %v", at, got, err, want)
	}
}

func misses(t *testing.T, what string, d *disk.Disk, at int, want api.Errno) {
	t.Helper()
	if got, err := journal.Last(d, at); !isZero(got) || err != want {
		t.Errorf("%s: Last(%d) = %v, %v, not zero, %v", what, at, got, err, want)
	}
}

// read tells a sector, firm or loose.
func read(t *testing.T, d *disk.Disk, at int) []byte {
	t.Helper()
	b, err := d.Read(at)
	ok(t, "Read", err)
	return b
}

// firm tells the sectors of a disk as they would be behind a crash that loses all that is loose.
func firm(t *testing.T, d *disk.Disk) [][]byte {
	t.Helper()
	c := d.Clone()
	ok(t, "Crash", c.Crash(nil, 0))
	l := make([][]byte, c.Sectors())
	for at := range l {
		l[at] = read(t, c, at)
	}
	return l
}

// same holds a disk against a clone from ahead of a call: its sectors, its changes, what is loose, whether it is out.
func same(t *testing.T, call string, d, was *disk.Disk) {
	t.Helper()
	if d.Up() != was.Up() || d.Ops() != was.Ops() || !slices.Equal(d.Loose(), was.Loose()) || !slices.EqualFunc(firm(t, d), firm(t, was), bytes.Equal) {
		t.Errorf("%s changed the disk", call)
	}
	for at := range d.Sectors() {
		b, err := d.Read(at)
		a, before := was.Read(at)
		if !bytes.Equal(a, b) || err != before {
			t.Errorf("%s changed what sector %d is read as", call, at)
		}
	}
}

// wrongPlaces tells places that a disk of so many sectors has not: below 0, beyond, and those whose lowest bytes are those of one that it has.
func wrongPlaces(sectors int) []int {
	return []int{-1, -2, -sectors, math.MinInt, math.MinInt + 1, sectors, sectors + 1, 1 << 16, 1 << 32, math.MaxInt - 1, math.MaxInt}
}

// refusesWrites holds what Write answers, of an entry that may be, against what is asked for, and of others too; and that it changes nothing.
func refusesWrites(t *testing.T, what string, d *disk.Disk, at int, want, wantOfWrongs api.Errno) {
	t.Helper()
	was := d.Clone()
	for _, e := range edges()[:4] {
		is(t, what+": Write", journal.Write(d, at, e), want)
	}
	for _, e := range wrongs() {
		is(t, what+": Write of an entry that may not be", journal.Write(d, at, e), wantOfWrongs)
	}
	if was != nil {
		same(t, what, d, was)
	}
}

// The chapter's examples, in their order.
func TestExamples(t *testing.T) {
	d := made(t, 4)
	e := api.Entry{Block: 3, N: 9, Data: bytes.Repeat([]byte{1}, 32)}
	misses(t, "a new disk", d, 0, api.ErrMissing)
	ok(t, "Write", journal.Write(d, 0, e))
	last(t, d, 0, e)
	is(t, "Write of block 64", journal.Write(d, 0, api.Entry{Block: 64, N: 9, Data: e.Data}), api.ErrArg)
	is(t, "Write of 31 bytes", journal.Write(d, 0, api.Entry{Block: 3, N: 9, Data: e.Data[:31]}), api.ErrArg)
	misses(t, "a place that is none", d, 4, api.ErrRange)
	refuses(t, "64 noughts", make([]byte, 64), api.ErrCorrupt)
	b, err := block.Bytes(3, 9, e.Data)
	ok(t, "block.Bytes", err)
	refuses(t, "a block's sector", b, api.ErrCorrupt)
}

// P8.2, P8.3: what is written is told, at the first sector, at the last one and in between, where none ever was and over another one, with a lower number too; it is firm by two changes; the other sectors stay.
func TestWriteAndLast(t *testing.T) {
	entries := edges()
	slices.Reverse(entries)
	entries = append(edges(), entries...)
	for at := range 5 {
		d := made(t, 5)
		want := firm(t, d)
		for i, e := range entries {
			ok(t, "Write", journal.Write(d, at, e))
			last(t, d, at, e)
			want[at] = right(e).laid()
			if !slices.EqualFunc(firm(t, d), want, bytes.Equal) || d.Ops() != 2*(i+1) || len(d.Loose()) != 0 {
				t.Errorf("behind Write number %d at %d, of %v, the sectors are %v, not %v; changes: %d, loose: %v", i+1, at, e, firm(t, d), want, d.Ops(), d.Loose())
			}
			ok(t, "Crash", d.Crash(nil, 0))
			last(t, d, at, e)
		}
		for other := range 5 {
			if other != at {
				misses(t, "another sector", d, other, api.ErrMissing)
			}
		}
	}
}

// P8.2: at the ends of the smallest and of the greatest disk.
func TestWriteAtTheEndsOfDisks(t *testing.T) {
	for _, sectors := range []int{1, 2, 1024} {
		d := made(t, sectors)
		for i, at := range []int{0, sectors - 1} {
			e := edges()[5+i]
			ok(t, "Write", journal.Write(d, at, e))
			last(t, d, at, e)
		}
		misses(t, "the end", d, sectors, api.ErrRange)
	}
}

// P8.2: each sector has an entry of its own: a Write looks at none of the others.
func TestEntriesBesideEachOther(t *testing.T) {
	d := made(t, len(edges()))
	for at, e := range edges() {
		ok(t, "Write", journal.Write(d, at, e))
	}
	for at, e := range edges() {
		last(t, d, at, e)
	}
}

// P8.2: what is loose is told, as it was written last; and Last changes nothing.
func TestLastOfWhatIsLoose(t *testing.T) {
	d := made(t, 3)
	for _, e := range edges() {
		ok(t, "Write", d.Write(1, right(e).laid()))
		was := d.Clone()
		last(t, d, 1, e)
		same(t, "Last", d, was)
		last(t, d, 1, e)
	}
	ok(t, "Write", d.Write(1, make([]byte, 64)))
	misses(t, "noughts", d, 1, api.ErrMissing)
}

// P8.2: a Write flushes what was loose beside it, too, as the disk does; what was loose at its own place is gone.
func TestWriteWhereSomethingIsLoose(t *testing.T) {
	d := made(t, 3)
	beside, below := bytes.Repeat([]byte{7}, 64), right(edges()[8]).laid()
	ok(t, "Write", d.Write(0, beside))
	ok(t, "Write", d.Write(1, below))
	ok(t, "Write", journal.Write(d, 1, one()))
	ok(t, "Crash", d.Crash(nil, 0))
	last(t, d, 1, one())
	if b := read(t, d, 0); !bytes.Equal(b, beside) {
		t.Error("the sector beside it is", b)
	}
}

// P8.2: a sector that is not that of an entry is told as missing: noughts, a block's, one with a bit turned, one of parts that may not be.
func TestLastOfSectorsThatAreNone(t *testing.T) {
	blocks, err := block.Bytes(3, 9, filled(1))
	ok(t, "block.Bytes", err)
	marked := right(one())
	marked.mark = 2
	again := right(one())
	again.again++
	none := [][]byte{
		make([]byte, 64),
		bytes.Repeat([]byte{255}, 64),
		blocks,
		marked.laid(),
		again.laid(),
		right(api.Entry{Block: 64, N: 9, Data: filled(1)}).laid(),
		right(api.Entry{Block: 3, N: 0, Data: filled(1)}).laid(),
		right(api.Entry{Block: 3, N: most + 1, Data: filled(1)}).laid(),
	}
	for bit := range 8 * 64 {
		b := right(one()).laid()
		b[bit/8] ^= 1 << (bit % 8)
		none = append(none, b)
	}
	for _, b := range none {
		d := made(t, 2)
		ok(t, "Write", journal.Write(d, 1, one()))
		ok(t, "Write", d.Write(1, b))
		was := d.Clone()
		misses(t, "no entry", d, 1, api.ErrMissing)
		same(t, "Last", d, was)
		ok(t, "Flush", d.Flush())
		misses(t, "no entry", d, 1, api.ErrMissing)
		ok(t, "Write", journal.Write(d, 1, edges()[5]))
		last(t, d, 1, edges()[5])
	}
}

// P8.2: an entry that may not be is refused, and changes nothing of what was written.
func TestWriteOfEntriesThatMayNotBe(t *testing.T) {
	d := made(t, 2)
	ok(t, "Write", journal.Write(d, 0, one()))
	was := d.Clone()
	for _, e := range wrongs() {
		if err := journal.Write(d, 0, e); err != api.ErrArg {
			t.Errorf("Write(%v) = %v, not %v", e, err, api.ErrArg)
		}
	}
	same(t, "what is refused", d, was)
	last(t, d, 0, one())
}

// P8.2: a sector that there is not is told as that, behind an entry that may not be.
func TestWrongPlaces(t *testing.T) {
	for sectors := 1; sectors < 5; sectors++ {
		d := made(t, sectors)
		for at := range sectors {
			ok(t, "Write", journal.Write(d, at, one()))
		}
		for _, at := range wrongPlaces(sectors) {
			misses(t, "a place that there is not", d, at, api.ErrRange)
			refusesWrites(t, "a place that there is not", d, at, api.ErrRange, api.ErrArg)
		}
	}
}

// P8.2: a disk that is out is told as that, ahead of a sector that there is not, behind an entry that may not be; what was written is there behind a crash.
func TestDisksThatAreOut(t *testing.T) {
	d := out(t, 4)
	for _, at := range append(wrongPlaces(4), 0, 1, 3) {
		misses(t, "a disk that is out", d, at, api.ErrBroken)
		refusesWrites(t, "a disk that is out", d, at, api.ErrBroken, api.ErrArg)
	}
	ok(t, "Crash", d.Crash(nil, 0))
	last(t, d, 0, one())
}

// P8.2: a fuse that allows nothing more is found by the first change: a sector that there is not, and an entry that may not be, are told ahead, and do not put the disk out.
func TestWriteWithoutAChangeLeft(t *testing.T) {
	d := made(t, 2)
	ok(t, "Fuse", d.Fuse(0))
	refusesWrites(t, "a place that there is not", d, 2, api.ErrRange, api.ErrArg)
	misses(t, "nothing written", d, 0, api.ErrMissing)
	is(t, "Write", journal.Write(d, 0, one()), api.ErrBroken)
	if d.Up() || d.Ops() != 0 {
		t.Errorf("behind a change beyond the fuse the disk is up: %v; changes: %d", d.Up(), d.Ops())
	}
}

// P8.2, rule 5: a disk that nobody made is told ahead of all else that is wrong.
func TestDisksThatNobodyMade(t *testing.T) {
	for name, d := range unmade(t) {
		for _, at := range append(wrongPlaces(4), 0, 1) {
			misses(t, name, d, at, api.ErrNil)
			refusesWrites(t, name, d, at, api.ErrNil, api.ErrNil)
		}
	}
}

// Rule 4: Write changes nothing of what it is handed, and keeps none of it.
func TestWriteOfWhatIsHandedIn(t *testing.T) {
	room := append(filled(1), 9, 9, 9, 9)
	d := made(t, 2)
	ok(t, "Write", journal.Write(d, 0, api.Entry{Block: 3, N: 9, Data: room[:32]}))
	if !bytes.Equal(room, append(filled(1), 9, 9, 9, 9)) {
		t.Error("Write changed what it was handed:", room)
	}
	fill(room, 3)
	last(t, d, 0, one())
}

// Rule 4: what Last tells is new memory: no later Last tells what was made of it.
func TestLastTellsNewMemory(t *testing.T) {
	d := made(t, 2)
	ok(t, "Write", journal.Write(d, 0, one()))
	a, err := journal.Last(d, 0)
	ok(t, "Last", err)
	b, err := journal.Last(d, 0)
	ok(t, "Last", err)
	fill(a.Data, 3)
	if !alike(b, one()) {
		t.Error("one answer changed with another one:", b)
	}
	last(t, d, 0, one())
	ok(t, "Write", journal.Write(d, 0, edges()[5]))
	if !alike(b, one()) {
		t.Error("an answer changed with a Write:", b)
	}
}
