package dirty_test

import (
	"bytes"
	"encoding/binary"
	"hash/crc32"
	"math"
	"slices"
	"testing"

	"tandem/api"
	"tandem/dirty"
	"tandem/disk"
)

const (
	most = 1 << 40
	all  = math.MaxUint64
)

// slotSector tells the sector of a record and a number: laid out by the library, so that it leans on none of what it is held against.
func slotSector(n int, rec []byte) []byte {
	b := binary.LittleEndian.AppendUint64(nil, uint64(n))
	b = binary.LittleEndian.AppendUint16(b, uint16(len(rec)))
	b = append(b, rec...)
	b = append(b, make([]byte, 54-len(b))...)
	b = append(b, binary.LittleEndian.AppendUint64(nil, uint64(n))[:6]...)
	return binary.LittleEndian.AppendUint32(b, crc32.ChecksumIEEE(b))
}

// setSector tells the sector of a set and a number.
func setSector(n int, set uint64) []byte {
	return slotSector(n, binary.LittleEndian.AppendUint64(nil, set))
}

// garbage tells a sector that is none of a record; unlike seeds below 200 have unlike bytes everywhere.
func garbage(seed int) []byte { return bytes.Repeat([]byte{byte(1 + seed)}, 64) }

// is and ok hold an error against the one that is asked for.
func is(t *testing.T, call string, got, want api.Errno) {
	t.Helper()
	if got != want {
		t.Errorf("%s: %v, not %v", call, got, want)
	}
}

func ok(t *testing.T, call string, got api.Errno) {
	t.Helper()
	is(t, call, got, api.OK)
}

// made tells a new disk.
func made(t *testing.T, sectors int) *disk.Disk {
	t.Helper()
	d, err := disk.New(sectors)
	if d == nil || err != api.OK {
		t.Fatalf("New(%d) = %p, %v", sectors, d, err)
	}
	return d
}

// written tells a new disk that has these sectors, firmly.
func written(t *testing.T, l ...[]byte) *disk.Disk {
	t.Helper()
	d := made(t, len(l))
	for at, b := range l {
		ok(t, "Write", d.Write(at, b))
	}
	ok(t, "Flush", d.Flush())
	return d
}

// laid tells a new disk on which a map was made.
func laid(t *testing.T, sectors, at int) *disk.Disk {
	t.Helper()
	d := made(t, sectors)
	ok(t, "Make", dirty.Make(d, at))
	return d
}

// out tells the disk, out.
func out(t *testing.T, d *disk.Disk) *disk.Disk {
	t.Helper()
	ok(t, "Fuse", d.Fuse(0))
	is(t, "Flush", d.Flush(), api.ErrBroken)
	return d
}

// has holds the set of a map against what is asked for.
func has(t *testing.T, what string, m *dirty.Map, want uint64) {
	t.Helper()
	if got := m.Bits(); got != want {
		t.Errorf("%s: Bits() = %x, not %x", what, got, want)
	}
}

// opened opens a map that has a set; that changes nothing of the disk.
func opened(t *testing.T, d *disk.Disk, at int, want uint64) *dirty.Map {
	t.Helper()
	was := d.Clone()
	m, err := dirty.Open(d, at)
	if m == nil || err != api.OK {
		t.Fatalf("Open(%d) = %p, %v", at, m, err)
	}
	has(t, "opened", m, want)
	same(t, "Open", d, was)
	return m
}

// refused holds what Open answers against the error that is asked for; that changes nothing of the disk.
func refused(t *testing.T, what string, d *disk.Disk, at int, want api.Errno) {
	t.Helper()
	stays(t, what, d, func() {
		t.Helper()
		if m, err := dirty.Open(d, at); m != nil || err != want {
			t.Errorf("%s: Open(%d) = %p, %v, not none, %v", what, at, m, err, want)
		}
	})
}

// fresh tells a map on a disk of four sectors, from the second one on, to which some blocks were merged.
func fresh(t *testing.T, set uint64) (*dirty.Map, *disk.Disk) {
	t.Helper()
	d := laid(t, 4, 1)
	m := opened(t, d, 1, 0)
	ok(t, "Merge", m.Merge(set))
	has(t, "fresh", m, set)
	return m, d
}

// sectors tells what a disk has behind a crash that keeps all that is loose, or loses it.
func sectors(t *testing.T, d *disk.Disk, keep bool) [][]byte {
	t.Helper()
	c := d.Clone()
	ok(t, "Crash", c.Crash(slices.Repeat([]bool{keep}, c.Sectors()), -1))
	l := make([][]byte, c.Sectors())
	for at := range l {
		b, err := c.Read(at)
		ok(t, "Read", err)
		l[at] = b
	}
	return l
}

// firm and whole tell what a disk has firmly, and with what is loose.
func firm(t *testing.T, d *disk.Disk) [][]byte  { return sectors(t, d, false) }
func whole(t *testing.T, d *disk.Disk) [][]byte { return sectors(t, d, true) }

// areSectors holds sectors against those that are asked for.
func areSectors(t *testing.T, what string, got, want [][]byte) {
	t.Helper()
	if len(got) != len(want) {
		t.Fatalf("%s: %d sectors, not %d", what, len(got), len(want))
	}
	for at := range got {
		if !bytes.Equal(got[at], want[at]) {
			t.Errorf("%s: sector %d is %v, not %v", what, at, got[at], want[at])
		}
	}
}

// same holds a disk against a clone from ahead of a call.
func same(t *testing.T, call string, d, was *disk.Disk) {
	t.Helper()
	if d.Up() != was.Up() || d.Ops() != was.Ops() || !slices.Equal(d.Loose(), was.Loose()) {
		t.Errorf("%s: up %v, %v ahead; changes %d, %d ahead; loose %v, %v ahead", call, d.Up(), was.Up(), d.Ops(), was.Ops(), d.Loose(), was.Loose())
	}
	areSectors(t, call, firm(t, d), firm(t, was))
	areSectors(t, call, whole(t, d), whole(t, was))
}

// stays holds that a call changes nothing of a disk.
func stays(t *testing.T, what string, d *disk.Disk, call func()) {
	t.Helper()
	was := d.Clone()
	call()
	if was != nil {
		same(t, what, d, was)
	}
}

// call is a call of Mark, Merge or Clear.
type call struct {
	name  string
	do    func(m *dirty.Map) api.Errno
	put   uint64
	taken uint64
}

// made tells the set that a map has behind the call.
func (c call) made(set uint64) uint64 { return set&^c.taken | c.put }

func mark(block int) call {
	return call{"Mark", func(m *dirty.Map) api.Errno { return m.Mark(block) }, 1 << block, 0}
}

func merge(set uint64) call {
	return call{"Merge", func(m *dirty.Map) api.Errno { return m.Merge(set) }, set, 0}
}

func cleared(set uint64) call {
	return call{"Clear", func(m *dirty.Map) api.Errno { return m.Clear(set) }, 0, set}
}

// sets tells the empty one, the full one, each with one block, each without one, and some in between.
func sets() []uint64 {
	l := []uint64{0, all, 0x0102030405060708, 0xf0f0f0f0f0f0f0f0, 0xffffffff, 0xffffffff << 32, 1<<63 | 1, 33, 41}
	for block := range 64 {
		l = append(l, 1<<block, all&^(1<<block))
	}
	return l
}

// wrongBlocks and wrongPlaces tell blocks that there are not, and from where a disk of so many sectors has not two.
func wrongBlocks() []int {
	return []int{-1, -2, -63, -64, -65, 64, 65, 127, 128, 256, 1 << 16, 1 << 32, 1<<32 + 3, math.MaxInt, math.MaxInt - 1, math.MinInt, math.MinInt + 1}
}

func wrongPlaces(sectors int) []int {
	return []int{-1, -2, -sectors, -1 << 32, math.MinInt, math.MinInt + 1, sectors - 1, sectors, sectors + 1, 1024, 1 << 16, 1 << 32, math.MaxInt - 1, math.MaxInt}
}

// copied tells a copy of a value: behind a type parameter, since vet would not have a disk copied.
func copied[T any](p *T) *T {
	c := *p
	return &c
}

// chance tells numbers without a pattern, the same ones in every run.
type chance uint64

func (c *chance) below(n int) int {
	*c = *c*6364136223846793005 + 1442695040888963407
	return int(uint64(*c) >> 33 % uint64(n))
}

// set tells one of few blocks, of many, of none, or of all.
func (c *chance) set() uint64 {
	a, b := uint64(c.below(1<<31))<<33^uint64(c.below(1<<31)), uint64(c.below(1<<31))<<33^uint64(c.below(1<<31))
	switch c.below(6) {
	case 0:
		return 0
	case 1:
		return all
	case 2:
		return a
	case 3:
		return a | b
	case 4:
		return 1 << c.below(64)
	}
	return a & b
}

// call tells any call.
func (c *chance) call() call {
	switch c.below(3) {
	case 0:
		return mark(c.below(64))
	case 1:
		return merge(c.set())
	}
	return cleared(c.set())
}
