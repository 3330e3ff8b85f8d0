package store_test

import (
	"bytes"
	"encoding/binary"
	"hash/crc32"
	"math"
	"slices"
	"testing"

	"tandem/api"
	"tandem/disk"
	"tandem/store"
)

const most = 1 << 40

// sealed tells a sector that begins with a number and a block, goes on with some bytes, and ends with the number and its checksum: laid out by the library, so that it leans on none of what it is held against.
func sealed(n uint64, place uint16, data []byte, mark byte) []byte {
	b := binary.LittleEndian.AppendUint64(nil, n)
	b = binary.LittleEndian.AppendUint16(b, place)
	b = append(b, data...)
	b = append(b, mark)
	b = append(b, make([]byte, 11)...)
	b = append(b, binary.LittleEndian.AppendUint64(nil, n)[:6]...)
	return binary.LittleEndian.AppendUint32(b, crc32.ChecksumIEEE(b))
}

// blockSector and entrySector tell the sectors of a block and of a journal's entry.
func blockSector(place, n int, data []byte) []byte {
	return sealed(uint64(n), uint16(place), data, 0)
}

func entrySector(place, n int, data []byte) []byte {
	return sealed(uint64(n), uint16(place), data, 1)
}

// noughts, ones and filled tell a block's bytes: all 0, all 255, or some that are all unlike, none of them nought; unlike seeds below 255 have unlike bytes everywhere.
func noughts() []byte { return make([]byte, 32) }

func ones() []byte { return bytes.Repeat([]byte{255}, 32) }

func filled(seed int) []byte {
	b := make([]byte, 32)
	for i := range b {
		b[i] = byte(1 + (i+37*seed)%255)
	}
	return b
}

// garbage tells a sector that is none of a block, nor of an entry.
func garbage(seed int) []byte { return append(filled(seed), filled(seed+1)...) }

// is and ok hold an error against the one that is asked for.
func is(t *testing.T, call string, got, want api.Errno) {
	t.Helper()
	if got != want {
		t.Errorf("%s: %v, not %v", call, got, want)
	}
}

func ok(t *testing.T, call string, got api.Errno) {
	t.Helper()
	is(t, call, got, api.OK)
}

// made tells a new disk.
func made(t *testing.T, sectors int) *disk.Disk {
	t.Helper()
	d, err := disk.New(sectors)
	if d == nil || err != api.OK {
		t.Fatalf("New(%d) = %p, %v", sectors, d, err)
	}
	return d
}

// laid tells a new disk on which a store was made.
func laid(t *testing.T, sectors, at, blocks int) *disk.Disk {
	t.Helper()
	d := made(t, sectors)
	ok(t, "Make", store.Make(d, at, blocks))
	return d
}

// written tells a new disk that has these sectors.
func written(t *testing.T, l [][]byte) *disk.Disk {
	t.Helper()
	d := made(t, len(l))
	for at, b := range l {
		ok(t, "Write", d.Write(at, b))
	}
	ok(t, "Flush", d.Flush())
	return d
}

// out tells the disk, out.
func out(t *testing.T, d *disk.Disk) *disk.Disk {
	t.Helper()
	ok(t, "Fuse", d.Fuse(0))
	is(t, "Flush", d.Flush(), api.ErrBroken)
	return d
}

// opened opens a store of which these blocks are bad.
func opened(t *testing.T, d *disk.Disk, at, blocks int, bad ...int) *store.Store {
	t.Helper()
	s, got, err := store.Open(d, at, blocks)
	if s == nil || err != api.OK {
		t.Fatalf("Open(%d, %d) = %p, %v, %v", at, blocks, s, got, err)
	}
	if !slices.Equal(got, bad) {
		t.Errorf("Open(%d, %d) tells that %v are bad, not %v", at, blocks, got, bad)
	}
	if s.Blocks() != blocks {
		t.Errorf("Open(%d, %d), Blocks() = %d", at, blocks, s.Blocks())
	}
	return s
}

// fresh tells a store that was just made, on a disk with just its sectors.
func fresh(t *testing.T, blocks int) (*store.Store, *disk.Disk) {
	t.Helper()
	d := laid(t, blocks+1, 0, blocks)
	return opened(t, d, 0, blocks), d
}

// puts, has, misses and counts hold what a store answers against what is asked for.
func puts(t *testing.T, s *store.Store, place int, b []byte) {
	t.Helper()
	if err := s.Put(place, b); err != api.OK {
		t.Errorf("Put(%d) = %v", place, err)
	}
}

func has(t *testing.T, s *store.Store, place int, want []byte) {
	t.Helper()
	if got, err := s.Get(place); !bytes.Equal(got, want) || err != api.OK {
		t.Errorf("Get(%d) = %v, %v, not %v", place, got, err, want)
	}
}

func misses(t *testing.T, what string, s *store.Store, place int, want api.Errno) {
	t.Helper()
	if got, err := s.Get(place); len(got) != 0 || err != want {
		t.Errorf("%s: Get(%d) = %v, %v, not none, %v", what, place, got, err, want)
	}
}

func counts(t *testing.T, s *store.Store, want int) {
	t.Helper()
	if got := s.Number(); got != want {
		t.Errorf("Number() = %d, not %d", got, want)
	}
}

// refused holds what Open answers against the error that is asked for.
func refused(t *testing.T, what string, d *disk.Disk, at, blocks int, want api.Errno) {
	t.Helper()
	if s, bad, err := store.Open(d, at, blocks); s != nil || len(bad) != 0 || err != want {
		t.Errorf("%s: Open(%d, %d) = %p, %v, %v, not none, %v", what, at, blocks, s, bad, err, want)
	}
}

// sectors tells what a disk has behind a crash that keeps all that is loose, or loses it.
func sectors(t *testing.T, d *disk.Disk, keep bool) [][]byte {
	t.Helper()
	c := d.Clone()
	ok(t, "Crash", c.Crash(slices.Repeat([]bool{keep}, c.Sectors()), -1))
	l := make([][]byte, c.Sectors())
	for at := range l {
		b, err := c.Read(at)
		ok(t, "Read", err)
		l[at] = b
	}
	return l
}

// firm and whole tell what a disk has firmly, and with what is loose.
func firm(t *testing.T, d *disk.Disk) [][]byte  { return sectors(t, d, false) }
func whole(t *testing.T, d *disk.Disk) [][]byte { return sectors(t, d, true) }

// areSectors holds sectors against those that are asked for.
func areSectors(t *testing.T, what string, got, want [][]byte) {
	t.Helper()
	if len(got) != len(want) {
		t.Fatalf("%s: %d sectors, not %d", what, len(got), len(want))
	}
	for at := range got {
		if !bytes.Equal(got[at], want[at]) {
			t.Errorf("%s: sector %d is %v, not %v", what, at, got[at], want[at])
		}
	}
}

// same holds a disk against a clone from ahead of a call.
func same(t *testing.T, call string, d, was *disk.Disk) {
	t.Helper()
	if d.Up() != was.Up() || d.Ops() != was.Ops() || !slices.Equal(d.Loose(), was.Loose()) {
		t.Errorf("%s: up %v, %v ahead; changes %d, %d ahead; loose %v, %v ahead", call, d.Up(), was.Up(), d.Ops(), was.Ops(), d.Loose(), was.Loose())
	}
	areSectors(t, call, firm(t, d), firm(t, was))
	areSectors(t, call, whole(t, d), whole(t, was))
}

// stays holds that a call changes nothing of a disk.
func stays(t *testing.T, what string, d *disk.Disk, call func()) {
	t.Helper()
	was := d.Clone()
	call()
	if was != nil {
		same(t, what, d, was)
	}
}

// wrongCounts, wrongBlocks and wrongPlaces tell how many blocks no store has, which blocks one of so many has not, and from where a disk of so many sectors has no room for it.
func wrongCounts() []int {
	return []int{0, -1, -2, -64, 65, 66, 128, 1 << 16, 1<<16 + 1, 1<<32 + 1, math.MaxInt, math.MaxInt - 1, math.MinInt, math.MinInt + 1}
}

func wrongBlocks(blocks int) []int {
	return []int{-1, -2, -blocks, blocks, blocks + 1, 64, 65, 256, 1 << 16, 1<<32 + 1, math.MaxInt, math.MinInt, math.MinInt + 1}
}

func wrongPlaces(sectors, blocks int) []int {
	return []int{-1, -2, -blocks, -sectors, math.MinInt, math.MinInt + 1, sectors - blocks, sectors - blocks + 1, sectors - 1, sectors, sectors + 1, 1 << 16, 1 << 32, math.MaxInt - blocks - 1, math.MaxInt - blocks, math.MaxInt - 1, math.MaxInt}
}

// wrongBytes tells bytes that are too few, or too many, for a block.
func wrongBytes() [][]byte {
	l := [][]byte{nil, {}}
	for _, size := range []int{1, 16, 31, 33, 63, 64, 32 + 256, 32 + 65536} {
		l = append(l, make([]byte, size))
	}
	return append(l, filled(1)[:31])
}

// chance tells numbers without a pattern, the same ones in every run.
type chance uint64

func (c *chance) below(n int) int {
	*c = *c*6364136223846793005 + 1442695040888963407
	return int(uint64(*c) >> 33 % uint64(n))
}

func (c *chance) data() []byte {
	b := make([]byte, 32)
	for i := range b {
		b[i] = byte(c.below(256))
	}
	return b
}
