package store_test

import (
	"testing"

	"tandem/api"
	"tandem/disk"
	"tandem/store"
)

// refusesRoom holds what Make and Open answer against what is asked for, and that neither changes the disk.
func refusesRoom(t *testing.T, what string, d *disk.Disk, at, blocks int, want api.Errno) {
	t.Helper()
	stays(t, what, d, func() {
		t.Helper()
		if err := store.Make(d, at, blocks); err != want {
			t.Errorf("%s: Make(%d, %d) = %v, not %v", what, at, blocks, err, want)
		}
		refused(t, what, d, at, blocks, want)
	})
}

// P9.1, P9.2: numbers of blocks that may not be, ahead of sectors that are not there.
func TestWrongNumbersOfBlocks(t *testing.T) {
	for _, d := range []*disk.Disk{laid(t, 4, 0, 3), laid(t, 80, 0, 64), laid(t, 1024, 0, 64)} {
		for _, blocks := range wrongCounts() {
			refusesRoom(t, "wrong blocks", d, 0, blocks, api.ErrArg)
			for _, at := range wrongPlaces(d.Sectors(), 3) {
				refusesRoom(t, "wrong blocks at a wrong place", d, at, blocks, api.ErrArg)
			}
		}
	}
}

// P9.1, P9.2: places from which the sectors are not all there, and below 0.
func TestWrongPlaces(t *testing.T) {
	for _, p := range spots() {
		d := laid(t, p.sectors, p.at, p.blocks)
		for _, at := range wrongPlaces(p.sectors, p.blocks) {
			refusesRoom(t, "a wrong place", d, at, p.blocks, api.ErrRange)
		}
	}
	for sectors := range 64 {
		d := made(t, sectors+1)
		refusesRoom(t, "as many blocks as sectors", d, 0, sectors+1, api.ErrRange)
		refusesRoom(t, "more blocks than sectors, or as many", d, 0, 64, api.ErrRange)
	}
}

// P9.1, P9.2: a disk that is out, ahead of blocks that may not be, and of sectors that are not there; what was there is there behind a crash.
func TestRoomOfDisksThatAreOut(t *testing.T) {
	d := laid(t, 4, 0, 3)
	puts(t, opened(t, d, 0, 3), 1, filled(1))
	out(t, d)
	for _, blocks := range append(wrongCounts(), 1, 3, 4, 64) {
		for _, at := range append(wrongPlaces(4, 3), 0, 1) {
			refusesRoom(t, "a disk that is out", d, at, blocks, api.ErrBroken)
		}
	}
	ok(t, "Crash", d.Crash(nil, 0))
	has(t, opened(t, d, 0, 3), 1, filled(1))
}

// P9.1, P9.2: a fuse that allows nothing more is found by the first change: what is wrong is told ahead, and an Open of what is whole needs none.
func TestRoomWithoutAChangeLeft(t *testing.T) {
	d := laid(t, 4, 0, 3)
	ok(t, "Fuse", d.Fuse(0))
	refusesRoom(t, "no change left", d, 0, 65, api.ErrArg)
	refusesRoom(t, "no change left", d, 1, 3, api.ErrRange)
	stays(t, "Open", d, func() { opened(t, d, 0, 3) })
	is(t, "Make", store.Make(d, 0, 3), api.ErrBroken)
	if d.Up() {
		t.Error("behind a Make beyond the fuse the disk is up")
	}
}

// refusesBlock holds what Put and Get answer against what is asked for, and that neither changes the disk, or the number.
func refusesBlock(t *testing.T, what string, s *store.Store, d *disk.Disk, place int, b []byte, put, get api.Errno) {
	t.Helper()
	number, blocks := s.Number(), s.Blocks()
	stays(t, what, d, func() {
		t.Helper()
		if err := s.Put(place, b); err != put {
			t.Errorf("%s: Put(%d) of %d bytes = %v, not %v", what, place, len(b), err, put)
		}
		if get != api.OK {
			misses(t, what, s, place, get)
		}
	})
	if s.Number() != number || s.Blocks() != blocks {
		t.Errorf("%s: Number() = %d, not %d; Blocks() = %d, not %d", what, s.Number(), number, s.Blocks(), blocks)
	}
}

// P9.3, P9.4: blocks that there are not, ahead of bytes that may not be; and what is refused for that breaks nothing.
func TestWrongBlocks(t *testing.T) {
	for _, blocks := range []int{1, 3, 63, 64} {
		s, d := fresh(t, blocks)
		for _, place := range wrongBlocks(blocks) {
			refusesBlock(t, "a wrong block", s, d, place, filled(1), api.ErrRange, api.ErrRange)
			for _, b := range wrongBytes() {
				refusesBlock(t, "a wrong block and wrong bytes", s, d, place, b, api.ErrRange, api.ErrRange)
			}
		}
		puts(t, s, blocks-1, filled(1))
		has(t, s, blocks-1, filled(1))
	}
	// There is a sector behind the store, but no block.
	d := laid(t, 6, 1, 3)
	ok(t, "Write", d.Write(5, blockSector(3, 7, filled(1))))
	s := opened(t, d, 1, 3)
	counts(t, s, 1)
	refusesBlock(t, "the sector behind", s, d, 3, filled(2), api.ErrRange, api.ErrRange)
	refusesBlock(t, "the journal's sector", s, d, -1, filled(2), api.ErrRange, api.ErrRange)
}

// P9.3: bytes that may not be are refused; and that breaks nothing.
func TestWrongBytes(t *testing.T) {
	s, d := fresh(t, 3)
	puts(t, s, 1, filled(1))
	ok(t, "Turn", d.Turn(3, 20, 1))
	for _, b := range wrongBytes() {
		refusesBlock(t, "wrong bytes", s, d, 1, b, api.ErrArg, api.OK)
		refusesBlock(t, "wrong bytes for a bad block", s, d, 2, b, api.ErrArg, api.ErrCorrupt)
	}
	has(t, s, 1, filled(1))
	puts(t, s, 2, filled(2))
	has(t, s, 2, filled(2))
	counts(t, s, 3)
}

// full tells disks with a store of three blocks whose number is a given one: by a block, by the entry of one, by the entry of one that it has not.
func full(t *testing.T, number int) map[string]*disk.Disk {
	t.Helper()
	l := [][]byte{make([]byte, 64), blockSector(0, 1, noughts()), blockSector(1, 2, filled(1)), blockSector(2, 1, noughts())}
	block, entry, other := written(t, l), written(t, l), written(t, l)
	ok(t, "Write", block.Write(3, blockSector(2, number, filled(2))))
	ok(t, "Write", entry.Write(0, entrySector(2, number, filled(2))))
	ok(t, "Write", other.Write(0, entrySector(3, number, filled(2))))
	for _, d := range []*disk.Disk{block, entry, other} {
		ok(t, "Flush", d.Flush())
	}
	return map[string]*disk.Disk{"a block": block, "an entry": entry, "an entry of no block": other}
}

// P9.3: a number of 2^40: the store is full, behind what else is wrong; nothing changes, now or later; what is there is told still.
func TestFull(t *testing.T) {
	for what, d := range full(t, most) {
		s := opened(t, d, 0, 3)
		counts(t, s, most)
		for range 2 {
			for place := range 3 {
				refusesBlock(t, what, s, d, place, filled(3), api.ErrFull, api.OK)
				for _, b := range wrongBytes() {
					refusesBlock(t, what+", and wrong bytes", s, d, place, b, api.ErrArg, api.OK)
				}
			}
			for _, place := range wrongBlocks(3) {
				refusesBlock(t, what+", and a wrong block", s, d, place, filled(3), api.ErrRange, api.ErrRange)
			}
			has(t, s, 1, filled(1))
			s = opened(t, d, 0, 3)
		}
		out(t, d)
		refusesBlock(t, what+", and a disk that is out", s, d, 1, filled(3), api.ErrBroken, api.ErrBroken)
	}
}

// P9.3: ahead of 2^40 one Put more is done, and then it is full.
func TestFullBehindOnePut(t *testing.T) {
	for what, d := range full(t, most-1) {
		s := opened(t, d, 0, 3)
		counts(t, s, most-1)
		puts(t, s, 0, filled(3))
		counts(t, s, most)
		refusesBlock(t, what, s, d, 0, filled(4), api.ErrFull, api.OK)
		has(t, s, 0, filled(3))
		s = opened(t, d, 0, 3)
		refusesBlock(t, what, s, d, 2, filled(4), api.ErrFull, api.OK)
		has(t, s, 0, filled(3))
	}
}

// breakings tells calls that tell a store's disk as out, and behind how many changes.
func breakings() map[string]struct {
	changes int
	call    func(s *store.Store) api.Errno
} {
	put := func(place int, b []byte) func(*store.Store) api.Errno {
		return func(s *store.Store) api.Errno { return s.Put(place, b) }
	}
	get := func(place int) func(*store.Store) api.Errno {
		return func(s *store.Store) api.Errno {
			_, err := s.Get(place)
			return err
		}
	}
	return map[string]struct {
		changes int
		call    func(s *store.Store) api.Errno
	}{
		"Put": {0, put(1, filled(5))}, "Put, one change": {1, put(1, filled(5))}, "Put, two": {2, put(1, filled(5))}, "Put, three": {3, put(1, filled(5))},
		"Put, out": {-1, put(1, filled(5))}, "Put of a wrong block": {-1, put(3, filled(5))}, "Put of wrong bytes": {-1, put(1, nil)},
		"Get": {-1, get(1)}, "Get of a wrong block": {-1, get(3)}, "Get of a bad block": {-1, get(2)},
	}
}

// breaks tells a store of which a call told ErrBroken: block 1 was put ahead of that, block 2 is bad.
func breaks(t *testing.T, what string) (*store.Store, *disk.Disk) {
	t.Helper()
	b := breakings()[what]
	s, d := fresh(t, 3)
	puts(t, s, 1, filled(1))
	ok(t, "Turn", d.Turn(3, 20, 1))
	if b.changes < 0 {
		out(t, d)
	} else {
		ok(t, "Fuse", d.Fuse(b.changes))
	}
	is(t, what, b.call(s), api.ErrBroken)
	return s, d
}

// staysBroken holds that a store tells ErrBroken, whatever it is handed, and changes nothing.
func staysBroken(t *testing.T, what string, s *store.Store, d *disk.Disk) {
	t.Helper()
	for _, place := range append(wrongBlocks(3), 0, 1, 2) {
		for _, data := range append(wrongBytes(), filled(6)) {
			refusesBlock(t, what, s, d, place, data, api.ErrBroken, api.ErrBroken)
		}
	}
}

// P9.3, P9.4: once a call has told ErrBroken, all do, whatever they are handed, while the disk is out and when it is in again; nothing is written any more; its blocks and its number are told still; opened anew there is what was there.
func TestBrokenFromThenOn(t *testing.T) {
	for what, b := range breakings() {
		number, now := 2, filled(1)
		if b.changes > 0 {
			now = filled(5)
		}
		if b.changes >= 2 {
			number = 3
		}
		s, d := breaks(t, what)
		staysBroken(t, what+", the disk being out", s, d)
		for range 2 {
			ok(t, "Crash", d.Crash([]bool{true}, -1))
			staysBroken(t, what+", the disk being in again", s, d)
			counts(t, s, number)
		}
		again := opened(t, d, 0, 3, 2)
		has(t, again, 1, now)
		puts(t, again, 2, filled(7))
		has(t, again, 2, filled(7))
		is(t, what, s.Put(2, filled(8)), api.ErrBroken)
	}
}

// P9.3, P9.4: the same if the disk is in again ahead of the next call, of whatever kind that is.
func TestBrokenThoughTheDiskIsInAtOnce(t *testing.T) {
	for what := range breakings() {
		for _, isGet := range []bool{true, false} {
			s, d := breaks(t, what)
			ok(t, "Crash", d.Crash([]bool{true}, -1))
			if isGet {
				misses(t, what, s, 0, api.ErrBroken)
			} else {
				is(t, what, s.Put(0, filled(6)), api.ErrBroken)
			}
			staysBroken(t, what, s, d)
		}
	}
}

// P9.3, P9.4: a disk that was out and is in again, between two calls, breaks nothing; nor do Blocks and Number while it is out; nor do calls that tell something else.
func TestNotBroken(t *testing.T) {
	s, d := fresh(t, 3)
	puts(t, s, 1, filled(1))
	for i := range 3 {
		ok(t, "Turn", d.Turn(3, 20, 1))
		is(t, "Put", s.Put(3, filled(2)), api.ErrRange)
		is(t, "Put", s.Put(0, nil), api.ErrArg)
		misses(t, "a wrong block", s, -1, api.ErrRange)
		misses(t, "a bad block", s, 2, api.ErrCorrupt)
		out(t, d)
		counts(t, s, 2+2*i)
		if s.Blocks() != 3 {
			t.Errorf("of a disk that is out Blocks() = %d", s.Blocks())
		}
		ok(t, "Crash", d.Crash(nil, 0))
		has(t, s, 1, filled(1))
		puts(t, s, 0, filled(3+i))
		has(t, s, 0, filled(3+i))
		puts(t, s, 2, filled(6+i))
		has(t, s, 2, filled(6+i))
	}
}

// P9.3: one store is broken, another one on the same disk is not, nor one that was opened anew.
func TestBrokenAlone(t *testing.T) {
	d := laid(t, 8, 0, 3)
	ok(t, "Make", store.Make(d, 4, 3))
	a, b := opened(t, d, 0, 3), opened(t, d, 4, 3)
	out(t, d)
	is(t, "Put", a.Put(0, filled(1)), api.ErrBroken)
	ok(t, "Crash", d.Crash(nil, 0))
	puts(t, b, 0, filled(2))
	has(t, b, 0, filled(2))
	misses(t, "a broken store", a, 0, api.ErrBroken)
	c := opened(t, d, 0, 3)
	puts(t, c, 0, filled(3))
	has(t, c, 0, filled(3))
	misses(t, "a broken store", a, 0, api.ErrBroken)
}

// P9.3: what is wrong is told ahead of a fuse that allows nothing more, and does not put the disk out; a Get needs no change.
func TestCallsWithoutAChangeLeft(t *testing.T) {
	s, d := fresh(t, 3)
	ok(t, "Fuse", d.Fuse(0))
	refusesBlock(t, "no change left", s, d, 3, filled(1), api.ErrRange, api.ErrRange)
	refusesBlock(t, "no change left", s, d, 0, nil, api.ErrArg, api.OK)
	has(t, s, 0, noughts())
	is(t, "Put", s.Put(0, filled(1)), api.ErrBroken)
	if d.Up() {
		t.Error("behind a Put beyond the fuse the disk is up")
	}
	counts(t, s, 1)
}
