package slot_test

import (
	"bytes"
	"math"
	"slices"
	"testing"

	"tandem/api"
	"tandem/disk"
	"tandem/slot"
)

// made tells a new disk.
func made(t *testing.T, sectors int) *disk.Disk {
	t.Helper()
	d, err := disk.New(sectors)
	if d == nil || err != api.OK {
		t.Fatalf("New(%d) = %p, %v", sectors, d, err)
	}
	return d
}

// with tells a disk whose sectors are these, firm.
func with(t *testing.T, sectors ...[]byte) *disk.Disk {
	t.Helper()
	d := made(t, len(sectors))
	for at, b := range sectors {
		ok(t, "Write", d.Write(at, b))
	}
	ok(t, "Flush", d.Flush())
	return d
}

// out tells a disk that is out, though a slot at 0 was saved.
func out(t *testing.T, sectors int) *disk.Disk {
	t.Helper()
	d := made(t, sectors)
	ok(t, "Save", slot.Save(d, 0, record(3, 1)))
	ok(t, "Fuse", d.Fuse(0))
	is(t, "Flush", d.Flush(), api.ErrBroken)
	return d
}

// copied tells a copy of a value: behind a type parameter, since vet would not have a disk copied.
func copied[T any](p *T) *T {
	c := *p
	return &c
}

// unmade tells disks that nobody made.
func unmade(t *testing.T) map[string]*disk.Disk {
	t.Helper()
	d := made(t, 4)
	return map[string]*disk.Disk{"nil": nil, "new(disk.Disk)": new(disk.Disk), "a literal": {}, "a copy": copied(d)}
}

// loads and misses hold what Load answers against what is asked for.
func loads(t *testing.T, d *disk.Disk, at int, want []byte) {
	t.Helper()
	if got, err := slot.Load(d, at); !bytes.Equal(got, want) || err != api.OK {
		t.Errorf("Load(%d) = %v, %v, not %v", at, got, err, want)
	}
}

func misses(t *testing.T, d *disk.Disk, at int, want api.Errno) {
	t.Helper()
	if got, err := slot.Load(d, at); len(got) != 0 || err != want {
		t.Errorf("Load(%d) = %v, %v, not none, %v", at, got, err, want)
	}
}

// firm tells the sectors of a disk as they would be behind a crash that loses all that is loose.
func firm(t *testing.T, d *disk.Disk) [][]byte {
	t.Helper()
	c := d.Clone()
	ok(t, "Crash", c.Crash(nil, 0))
	l := make([][]byte, c.Sectors())
	for at := range l {
		b, err := c.Read(at)
		ok(t, "Read", err)
		l[at] = b
	}
	return l
}

// same holds a disk against a clone from ahead of a call: its sectors, firm and loose, its changes, whether it is out.
func same(t *testing.T, call string, d, was *disk.Disk) {
	t.Helper()
	if d.Up() != was.Up() || d.Ops() != was.Ops() || !slices.Equal(d.Loose(), was.Loose()) || !slices.EqualFunc(firm(t, d), firm(t, was), bytes.Equal) {
		t.Errorf("%s changed the disk", call)
	}
	for at := range d.Sectors() {
		b, err := d.Read(at)
		a, before := was.Read(at)
		if !bytes.Equal(a, b) || err != before {
			t.Errorf("%s changed what sector %d is read as", call, at)
		}
	}
}

// one is a sector of a slot: its bytes, the number that it has, 0 if it is not right, its record, and whether it is noughts.
type one struct {
	b       []byte
	n       int
	rec     []byte
	noughts bool
}

// ones tells sectors in all conditions: noughts; corrupt, be it by a torn write, a turned bit, or a number too great; right, with the least and the greatest numbers, and with one number but two records.
func ones() []one {
	turned := right(most, record(5, 1)).laid()
	turned[20] ^= 1
	return []one{
		{b: make([]byte, 64), noughts: true},
		{b: turned},
		{b: slices.Concat(right(9, record(30, 1)).laid()[:32], right(8, record(30, 0)).laid()[32:])},
		{b: right(most+1, record(5, 1)).laid()},
		{b: right(1, record(1, 1)).laid(), n: 1, rec: record(1, 1)},
		{b: right(1, nil).laid(), n: 1},
		{b: right(2, record(40, 0)).laid(), n: 2, rec: record(40, 0)},
		{b: right(2, record(2, 1)).laid(), n: 2, rec: record(2, 1)},
		{b: right(256, record(3, 4)).laid(), n: 256, rec: record(3, 4)},
		{b: right(most-1, record(4, 3)).laid(), n: most - 1, rec: record(4, 3)},
		{b: right(most, record(4, 5)).laid(), n: most, rec: record(4, 5)},
	}
}

// pair is both sectors of a slot; newest tells which one of them is, -1: none.
type pair [2]one

func (p pair) newest() int {
	switch {
	case p[0].n == 0 && p[1].n == 0:
		return -1
	case p[0].n >= p[1].n:
		return 0
	}
	return 1
}

// pairs tells slots of all sectors that ones tells, at both places.
func pairs() []pair {
	var l []pair
	for _, a := range ones() {
		for _, b := range ones() {
			l = append(l, pair{a, b})
		}
	}
	return l
}

// wrongPlaces tells places at which a disk, of so many sectors, has no slot: below 0, the last sector, beyond.
func wrongPlaces(sectors int) []int {
	return []int{-1, -2, math.MinInt, math.MinInt + 1, sectors - 1, sectors, sectors + 1, 1 << 32, math.MaxInt - 1, math.MaxInt}
}
