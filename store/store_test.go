package store_test

import (
	"bytes"
	"slices"
	"testing"

	"tandem/api"
	"tandem/disk"
	"tandem/store"
)

// spot is where a store lies: on a disk of so many sectors, from one on, of so many blocks.
type spot struct{ sectors, at, blocks int }

// spots tells the smallest and the greatest store, at the beginning of a disk, at its end, and in between.
func spots() []spot {
	return []spot{
		{2, 0, 1}, {3, 1, 1}, {5, 2, 1},
		{4, 0, 3}, {9, 4, 3}, {8, 4, 3},
		{65, 0, 64}, {66, 1, 64}, {69, 4, 64}, {1024, 0, 64}, {1024, 959, 64}, {1024, 1022, 1},
	}
}

// madeSectors tells what sectors are when a store of noughts was made there.
func madeSectors(was [][]byte, at, blocks int) [][]byte {
	l := slices.Clone(was)
	l[at] = make([]byte, 64)
	for place := range blocks {
		l[at+1+place] = blockSector(place, 1, noughts())
	}
	return l
}

// The chapter's examples, in their order.
func TestExamples(t *testing.T) {
	one, two := bytes.Repeat([]byte{1}, 32), bytes.Repeat([]byte{2}, 32)
	d := laid(t, 4, 0, 3)
	s := opened(t, d, 0, 3)
	has(t, s, 2, noughts())
	puts(t, s, 2, one)
	has(t, s, 2, one)

	ok(t, "Fuse", d.Fuse(2))
	is(t, "Put", s.Put(2, two), api.ErrBroken)
	ok(t, "Crash", d.Crash(nil, 0))
	s = opened(t, d, 0, 3)
	has(t, s, 2, two)

	ok(t, "Turn", d.Turn(2, 20, 1))
	s = opened(t, d, 0, 3, 1)
	misses(t, "a bad block", s, 1, api.ErrCorrupt)
	puts(t, s, 1, one)
	has(t, s, 1, one)

	is(t, "Make(0, 4)", store.Make(d, 0, 4), api.ErrRange)
	is(t, "Make(0, 65)", store.Make(d, 0, 65), api.ErrArg)
	misses(t, "block 3 of 3", s, 3, api.ErrRange)
	is(t, "Put of 31 bytes", s.Put(0, one[:31]), api.ErrArg)
}

// P9.1: a store of noughts, wherever it lies, on a new disk and over what was there; the sectors beside it stay; all is firm, by one change a sector and a flush.
func TestMake(t *testing.T) {
	for _, p := range spots() {
		for _, isNew := range []bool{true, false} {
			d := made(t, p.sectors)
			if !isNew {
				for at := range p.sectors {
					ok(t, "Write", d.Write(at, garbage(at)))
				}
				ok(t, "Flush", d.Flush())
			}
			want, ops := madeSectors(firm(t, d), p.at, p.blocks), d.Ops()
			ok(t, "Make", store.Make(d, p.at, p.blocks))
			areSectors(t, "Make", firm(t, d), want)
			if d.Ops() != ops+p.blocks+2 || len(d.Loose()) != 0 || !d.Up() {
				t.Errorf("Make%v: %d changes, loose: %v, up: %v", p, d.Ops()-ops, d.Loose(), d.Up())
			}
			s := opened(t, d, p.at, p.blocks)
			counts(t, s, 1)
			for place := range p.blocks {
				has(t, s, place, noughts())
			}
		}
	}
}

// P9.1: over an older store, with an entry and numbers of its own, all is as new.
func TestMakeOverAnotherStore(t *testing.T) {
	d := laid(t, 8, 1, 4)
	s := opened(t, d, 1, 4)
	for i := range 9 {
		puts(t, s, i%4, filled(i))
	}
	want := madeSectors(firm(t, d), 1, 3)
	ok(t, "Make", store.Make(d, 1, 3))
	areSectors(t, "Make", firm(t, d), want)
	s = opened(t, d, 1, 3)
	counts(t, s, 1)
	for place := range 3 {
		has(t, s, place, noughts())
	}
}

// P9.1: what stands loose in the store's sectors is written over, what is loose beside it becomes firm by the flush.
func TestMakeWhereSomethingIsLoose(t *testing.T) {
	d := made(t, 6)
	for at := range 6 {
		ok(t, "Write", d.Write(at, garbage(at)))
	}
	want := madeSectors(whole(t, d), 1, 3)
	ok(t, "Make", store.Make(d, 1, 3))
	areSectors(t, "Make", firm(t, d), want)
}

// P9.1: a Make that stops has written the sectors up to there, the first one first, then by rising numbers, all loosely: the only flush is the last change.
func TestMakeStopsAtEachChange(t *testing.T) {
	for _, p := range []spot{{4, 1, 1}, {7, 1, 4}, {66, 0, 64}} {
		first := made(t, p.sectors)
		for at := range p.sectors {
			ok(t, "Write", first.Write(at, garbage(at)))
		}
		ok(t, "Flush", first.Flush())
		want := madeSectors(firm(t, first), p.at, p.blocks)
		for changes := range p.blocks + 2 {
			d := first.Clone()
			ok(t, "Fuse", d.Fuse(changes))
			is(t, "Make", store.Make(d, p.at, p.blocks), api.ErrBroken)
			stopped := firm(t, first)
			var loose []int
			for i := range min(changes, p.blocks+1) {
				stopped[p.at+i] = want[p.at+i]
				loose = append(loose, p.at+i)
			}
			areSectors(t, "what is firm", firm(t, d), firm(t, first))
			areSectors(t, "what is written", whole(t, d), stopped)
			if d.Up() || d.Ops() != first.Ops()+changes || !slices.Equal(d.Loose(), loose) {
				t.Errorf("Make%v behind %d changes: up: %v, changes: %d, loose: %v", p, changes, d.Up(), d.Ops()-first.Ops(), d.Loose())
			}
		}
		d := first.Clone()
		ok(t, "Fuse", d.Fuse(p.blocks+2))
		ok(t, "Make", store.Make(d, p.at, p.blocks))
		areSectors(t, "Make", firm(t, d), want)
	}
}

// P9.3, P9.4, P9.2: what is put is got, at each block, whatever the bytes; the number is one more behind each Put, and the journal's sector and the block's have it, firmly, by four changes; all others stay.
func TestPutAndGet(t *testing.T) {
	for _, p := range spots() {
		d := laid(t, p.sectors, p.at, p.blocks)
		s := opened(t, d, p.at, p.blocks)
		want := firm(t, d)
		number := 1
		for i, data := range [][]byte{ones(), filled(1), noughts(), filled(2)} {
			for _, place := range slices.Compact([]int{0, p.blocks / 2, p.blocks - 1}) {
				ops := d.Ops()
				puts(t, s, place, data)
				number++
				counts(t, s, number)
				has(t, s, place, data)
				want[p.at] = entrySector(place, number, data)
				want[p.at+1+place] = blockSector(place, number, data)
				areSectors(t, "Put", firm(t, d), want)
				if d.Ops() != ops+4 || len(d.Loose()) != 0 {
					t.Errorf("Put number %d of block %d: changes: %d, loose: %v", i, place, d.Ops()-ops, d.Loose())
				}
				has(t, opened(t, d, p.at, p.blocks), place, data)
			}
		}
	}
}

// P9.3, P9.4: each of 64 blocks has bytes of its own, put rising and falling; opened anew, too, it has them, and the number goes on.
func TestAllBlocks(t *testing.T) {
	s, d := fresh(t, 64)
	for place := range 64 {
		puts(t, s, place, filled(place))
	}
	for place := 63; place >= 0; place-- {
		has(t, s, place, filled(place))
		puts(t, s, place, filled(100+place))
	}
	counts(t, s, 129)
	s = opened(t, d, 0, 64)
	counts(t, s, 129)
	for place := range 64 {
		has(t, s, place, filled(100+place))
	}
	puts(t, s, 5, ones())
	counts(t, s, 130)
	has(t, s, 5, ones())
}

// P9.3: a Put that stops: the journal's sector is written and flushed ahead of the block's; its number is one more as soon as the journal's is flushed, though the block's is not written any more.
func TestPutStopsAtEachChange(t *testing.T) {
	for _, place := range []int{0, 1, 2} {
		first := laid(t, 6, 1, 3)
		s := opened(t, first, 1, 3)
		puts(t, s, 1, filled(1))
		entry, laid := entrySector(place, 3, filled(2)), blockSector(place, 3, filled(2))
		for changes := range 5 {
			d := first.Clone()
			s := opened(t, d, 1, 3)
			ok(t, "Fuse", d.Fuse(changes))
			err := s.Put(place, filled(2))
			isFirm, isWritten, number, loose := firm(t, first), firm(t, first), 2, []int{}
			if changes >= 1 {
				isWritten[1], loose = entry, []int{1}
			}
			if changes >= 2 {
				isFirm[1], loose, number = entry, []int{}, 3
			}
			if changes >= 3 {
				isWritten[2+place], loose = laid, []int{2 + place}
			}
			if changes >= 4 {
				isFirm[2+place], loose = laid, []int{}
				ok(t, "Put", err)
			} else {
				is(t, "Put", err, api.ErrBroken)
			}
			areSectors(t, "what is firm", firm(t, d), isFirm)
			areSectors(t, "what is written", whole(t, d), isWritten)
			counts(t, s, number)
			if d.Ops() != first.Ops()+changes || !slices.Equal(d.Loose(), loose) || d.Up() != (changes == 4) {
				t.Errorf("Put behind %d changes: changes: %d, loose: %v, up: %v", changes, d.Ops()-first.Ops(), d.Loose(), d.Up())
			}
		}
	}
}

// P9.4: a Get changes nothing, of a bad block neither; it tells what is there then, loose or firm.
func TestGetChangesNothing(t *testing.T) {
	s, d := fresh(t, 3)
	puts(t, s, 1, filled(1))
	ok(t, "Turn", d.Turn(3, 20, 1))
	ok(t, "Write", d.Write(1, blockSector(0, 9, filled(2))))
	stays(t, "Get", d, func() {
		for range 2 {
			has(t, s, 0, filled(2))
			has(t, s, 1, filled(1))
			misses(t, "a bad block", s, 2, api.ErrCorrupt)
		}
		counts(t, s, 2)
	})
}

// P9.4: a block of which bits are turned behind the Open is bad from then on; turned back, or put anew, it is right.
func TestGetOfWhatIsTurned(t *testing.T) {
	s, d := fresh(t, 3)
	puts(t, s, 1, filled(1))
	for bit := range 8 * 64 {
		ok(t, "Turn", d.Turn(2, bit/8, 1<<(bit%8)))
		misses(t, "a bad block", s, 1, api.ErrCorrupt)
		has(t, s, 0, noughts())
		has(t, s, 2, noughts())
		ok(t, "Turn", d.Turn(2, bit/8, 1<<(bit%8)))
		has(t, s, 1, filled(1))
	}
	ok(t, "Turn", d.Turn(2, 0, 1))
	puts(t, s, 1, filled(2))
	has(t, s, 1, filled(2))
	counts(t, s, 3)
	has(t, opened(t, d, 0, 3), 1, filled(2))
}

// P9.4: a sector that is right, but that of another block, or of an entry, or noughts, is that of a bad block.
func TestGetOfOtherSectors(t *testing.T) {
	s, d := fresh(t, 3)
	for _, b := range [][]byte{
		blockSector(0, 1, noughts()), blockSector(2, 1, noughts()), blockSector(63, 1, noughts()),
		sealed(1, 256+1, noughts(), 0), entrySector(1, 1, noughts()), make([]byte, 64), garbage(1),
		blockSector(1, 0, noughts()), blockSector(1, most+1, noughts()),
	} {
		ok(t, "Write", d.Write(2, b))
		ok(t, "Flush", d.Flush())
		misses(t, "another sector", s, 1, api.ErrCorrupt)
		opened(t, d, 0, 3, 1)
		puts(t, s, 1, filled(1))
		has(t, s, 1, filled(1))
		puts(t, s, 2, filled(2)) // so that no entry of block 1 mends it
	}
}

// Two stores on one disk, one right behind the other: each has blocks and numbers of its own, and no call on one touches the other one's sectors.
func TestTwoStores(t *testing.T) {
	d := laid(t, 9, 0, 3)
	a := opened(t, d, 0, 3)
	puts(t, a, 2, filled(1))
	low := firm(t, d)[:4]
	ok(t, "Make", store.Make(d, 4, 4))
	b := opened(t, d, 4, 4)
	counts(t, b, 1)
	puts(t, b, 0, filled(2))
	puts(t, b, 3, filled(3))
	areSectors(t, "the store ahead", firm(t, d)[:4], low)
	high := firm(t, d)[4:]
	puts(t, a, 0, filled(4))
	puts(t, a, 2, filled(5))
	areSectors(t, "the store behind", firm(t, d)[4:], high)
	for range 2 {
		counts(t, a, 4)
		counts(t, b, 3)
		for place, want := range [][]byte{filled(4), noughts(), filled(5)} {
			has(t, a, place, want)
		}
		for place, want := range [][]byte{filled(2), noughts(), noughts(), filled(3)} {
			has(t, b, place, want)
		}
		a, b = opened(t, d, 0, 3), opened(t, d, 4, 4)
	}
	ok(t, "Make", store.Make(d, 0, 3))
	areSectors(t, "the store behind", firm(t, d)[4:], high)
}

// fill lays a byte over a slice and its spare room.
func fill(b []byte, c byte) {
	b = b[:cap(b)]
	for i := range b {
		b[i] = c
	}
}

// Rule 4: Put changes nothing of what it is handed, nor reads its spare room, nor looks at it later.
func TestPutOfWhatIsHandedIn(t *testing.T) {
	s, d := fresh(t, 3)
	want := append(filled(1), 9, 9, 9, 9)
	room := slices.Clone(want)
	puts(t, s, 1, room[:32])
	if !bytes.Equal(room, want) {
		t.Error("Put changed what it was handed:", room)
	}
	fill(room, 3)
	has(t, s, 1, filled(1))
	has(t, opened(t, d, 0, 3), 1, filled(1))
	is(t, "Put of 31 bytes with spare room", s.Put(1, filled(2)[:31]), api.ErrArg)
}

// Rule 4: what Get and Open tell is new memory.
func TestNewMemory(t *testing.T) {
	s, d := fresh(t, 3)
	puts(t, s, 1, filled(1))
	a, err := s.Get(1)
	ok(t, "Get", err)
	b, err := s.Get(1)
	ok(t, "Get", err)
	fill(a, 3)
	if !bytes.Equal(b, filled(1)) {
		t.Error("one answer changed with another one:", b)
	}
	has(t, s, 1, filled(1))
	puts(t, s, 1, filled(2))
	if !bytes.Equal(b, filled(1)) {
		t.Error("an answer changed with a Put:", b)
	}
	ok(t, "Turn", d.Turn(1, 0, 1))
	ok(t, "Turn", d.Turn(3, 0, 1))
	_, bad, err := store.Open(d, 0, 3)
	ok(t, "Open", err)
	bad = bad[:cap(bad)]
	for i := range bad {
		bad[i] = 7
	}
	opened(t, d, 0, 3, 0, 2)
}

// copied tells a copy of a value: behind a type parameter, since vet would not have a disk copied.
func copied[T any](p *T) *T {
	c := *p
	return &c
}

// Rule 5: disks that are nil, or that nobody made, are told ahead of all else.
func TestDisksThatNobodyMade(t *testing.T) {
	for what, d := range map[string]*disk.Disk{"nil": nil, "new(disk.Disk)": new(disk.Disk), "a literal": {}, "a copy": copied(laid(t, 4, 0, 3)), "a copy of one that is out": copied(out(t, laid(t, 4, 0, 3)))} {
		for _, blocks := range append(wrongCounts(), 1, 3, 64) {
			for _, at := range append(wrongPlaces(4, 3), 0) {
				is(t, what+": Make", store.Make(d, at, blocks), api.ErrNil)
				refused(t, what, d, at, blocks, api.ErrNil)
			}
		}
	}
}

// Rule 5: stores that are nil, or that nobody made.
func TestStoresThatNobodyMade(t *testing.T) {
	one, d := fresh(t, 3)
	puts(t, one, 1, filled(1))
	last, e := fresh(t, 3)
	out(t, e)
	for what, s := range map[string]*store.Store{"nil": nil, "new(store.Store)": new(store.Store), "a literal": {}, "a copy": copied(one), "a copy of one whose disk is out": copied(last)} {
		stays(t, what, d, func() {
			for _, place := range append(wrongBlocks(3), 0, 1, 2) {
				misses(t, what, s, place, api.ErrNil)
				for _, b := range append(wrongBytes(), filled(1)) {
					is(t, what+": Put", s.Put(place, b), api.ErrNil)
				}
			}
			if s.Blocks() != 0 || s.Number() != 0 {
				t.Errorf("%s: Blocks() = %d, Number() = %d", what, s.Blocks(), s.Number())
			}
		})
	}
	has(t, one, 1, filled(1))
}
