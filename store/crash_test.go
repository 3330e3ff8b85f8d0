package store_test

import (
	"bytes"
	"slices"
	"testing"

	"tandem/api"
	"tandem/disk"
	"tandem/store"
)

// crash is behind how many changes a call stops, which of the loose sectors a crash behind it keeps, which of those it tears.
type crash struct {
	changes int
	keeps   []bool
	tear    int
}

// crashes tells all of them for calls of so many changes, on a disk of which so many sectors are loose at most.
func crashes(changes, loose int) []crash {
	var l []crash
	for changes := range changes + 1 {
		for set := range 1 << loose {
			keeps := make([]bool, loose)
			for i := range keeps {
				keeps[i] = set>>i&1 == 1
			}
			for tear := -1; tear <= loose; tear++ {
				l = append(l, crash{changes, keeps, tear})
			}
		}
	}
	return l
}

// beside writes the first and the last sector of a disk, loosely.
func beside(t *testing.T, d *disk.Disk, seed int) {
	t.Helper()
	ok(t, "Write", d.Write(0, garbage(seed)))
	ok(t, "Write", d.Write(d.Sectors()-1, garbage(seed+1)))
}

// stops lets a call stop, and the disk crash, and tells what the call answered.
func stops(t *testing.T, d *disk.Disk, c crash, call func() api.Errno) api.Errno {
	t.Helper()
	ok(t, "Fuse", d.Fuse(c.changes))
	err := call()
	if err != api.OK && err != api.ErrBroken {
		t.Errorf("a call that stops behind %d changes: %v", c.changes, err)
	}
	ok(t, "Crash", d.Crash(c.keeps, c.tear))
	return err
}

// open is a call that opens a store and tells the error alone.
func open(d *disk.Disk, at, blocks int) func() api.Errno {
	return func() api.Errno {
		_, _, err := store.Open(d, at, blocks)
		return err
	}
}

// P9.1, P9.5: wherever a Make on a new disk stops, whatever the crash keeps and tears: each block is one of noughts, or bad, the Open tells which; and a further Make goes on from there.
func TestCrashesInMake(t *testing.T) {
	for blocks := 1; blocks < 4; blocks++ {
		for _, c := range crashes(blocks+3, blocks+3) {
			d := made(t, blocks+3)
			beside(t, d, 1)
			err := stops(t, d, c, func() api.Errno { return store.Make(d, 1, blocks) })
			s := opens(t, "behind a Make that stopped", d, 1, blocks)
			for place := range blocks {
				got, fault := s.Get(place)
				if isRight := fault == api.OK && bytes.Equal(got, noughts()); !isRight && (err == api.OK || fault != api.ErrCorrupt) {
					t.Errorf("behind a Make (%v) Get(%d) = %v, %v", err, place, got, fault)
				}
			}
			ok(t, "Make", store.Make(d, 1, blocks))
			has(t, opened(t, d, 1, blocks), blocks-1, noughts())
		}
	}
}

// P9.1, P9.5: the same over another store: each block is as the one or the other had it, or bad.
func TestCrashesInMakeOverAnotherStore(t *testing.T) {
	first := laid(t, 6, 1, 3)
	s := opened(t, first, 1, 3)
	for _, place := range []int{2, 0, 1} {
		puts(t, s, place, filled(place))
	}
	for _, c := range crashes(6, 4) {
		d := first.Clone()
		err := stops(t, d, c, func() api.Errno { return store.Make(d, 1, 3) })
		s := opens(t, "behind a Make that stopped", d, 1, 3)
		for place := range 3 {
			got, fault := s.Get(place)
			isRight := fault == api.OK && (bytes.Equal(got, noughts()) || err != api.OK && bytes.Equal(got, filled(place)))
			if !isRight && (err == api.OK || fault != api.ErrCorrupt) {
				t.Errorf("behind a Make (%v) Get(%d) = %v, %v", err, place, got, fault)
			}
		}
	}
}

// isPut tells whether a block has what was being put, behind a crash in a Put that began with the disk's first sector loose, and its last one: a crash that comes when the entry is loose decides; ahead of that it is not, behind it it is.
func (c crash) isPut() bool {
	place := 0
	if c.keeps[0] {
		place = 1
	}
	return c.changes >= 2 || c.changes == 1 && c.keeps[1] && c.tear != place
}

// hasAll holds all blocks of a store against what is asked for.
func hasAll(t *testing.T, s *store.Store, want [][]byte) {
	t.Helper()
	for place, b := range want {
		has(t, s, place, b)
	}
}

// P9.5: wherever a Put stops, of each block, and then an Open behind it, whatever each crash keeps and tears: no block is bad, that one has what was being put, or what was there, all others what they had; and a further Put, that stops too, goes on from there.
func TestCrashesInPut(t *testing.T) {
	for place := range 3 {
		first := laid(t, 6, 1, 3)
		s := opened(t, first, 1, 3)
		puts(t, s, 1, filled(1))
		puts(t, s, 2, filled(2))
		for _, a := range crashes(5, 3) {
			want := [][]byte{noughts(), filled(1), filled(2)}
			d := first.Clone()
			s := opened(t, d, 1, 3)
			beside(t, d, 1)
			err := stops(t, d, a, func() api.Errno { return s.Put(place, filled(3)) })
			if a.isPut() {
				want[place] = filled(3)
			}
			if (err == api.OK) != (a.changes >= 4) {
				t.Errorf("a Put that stops behind %d changes: %v", a.changes, err)
			}
			for _, b := range crashes(2, 2) {
				e := d.Clone()
				stops(t, e, b, open(e, 1, 3))
				hasAll(t, opens(t, "behind an Open that stopped", e, 1, 3), want)
			}
			s = opens(t, "behind a Put that stopped", d, 1, 3)
			hasAll(t, s, want)
			other := (place + 1) % 3
			for _, b := range []crash{{1, []bool{true, true, true}, 1}, {1, []bool{true, true}, -1}, {2, []bool{false, false}, 0}, {3, []bool{true}, 0}, {4, []bool{true}, 0}} {
				want := slices.Clone(want)
				e := d.Clone()
				s := opens(t, "for a further Put", e, 1, 3)
				beside(t, e, 3)
				stops(t, e, b, func() api.Errno { return s.Put(other, ones()) })
				if b.isPut() {
					want[other] = ones()
				}
				hasAll(t, opens(t, "behind a further Put", e, 1, 3), want)
			}
		}
	}
}

// P9.5: the same where the blocks were bad: of what was being put there is that, or still a bad block; and no other block becomes right, or bad.
func TestCrashesInPutOfABadBlock(t *testing.T) {
	first := laid(t, 6, 1, 3)
	puts(t, opened(t, first, 1, 3), 2, filled(2))
	ok(t, "Turn", first.Turn(2, 33, 8))
	ok(t, "Turn", first.Turn(3, 9, 8))
	for _, c := range crashes(5, 3) {
		d := first.Clone()
		s := opened(t, d, 1, 3, 0, 1)
		beside(t, d, 1)
		stops(t, d, c, func() api.Errno { return s.Put(1, filled(3)) })
		s = opens(t, "behind a Put of a bad block", d, 1, 3)
		if c.isPut() {
			has(t, s, 1, filled(3))
		} else {
			misses(t, "what was bad", s, 1, api.ErrCorrupt)
		}
		misses(t, "another one that was bad", s, 0, api.ErrCorrupt)
		has(t, s, 2, filled(2))
		puts(t, s, 1, filled(4))
		has(t, opens(t, "put anew", d, 1, 3), 1, filled(4))
	}
}

// P9.5: what was put with OK outlives crashes, however many, whatever they keep and tear of what is loose beside it.
func TestWhatWasPutOutlivesCrashes(t *testing.T) {
	d := laid(t, 6, 1, 3)
	want := [][]byte{noughts(), noughts(), noughts()}
	for i := range 12 {
		s := opened(t, d, 1, 3)
		want[i%3] = filled(i)
		puts(t, s, i%3, want[i%3])
		for _, c := range crashes(0, 2) {
			beside(t, d, i)
			ok(t, "Crash", d.Crash(c.keeps, c.tear))
			hasAll(t, s, want)
			hasAll(t, opened(t, d, 1, 3), want)
		}
	}
}

// P9.5: any bits of a byte are turned of the block that was put last: it is mended from the journal, firmly; of another one: it is bad; put anew that is right.
func TestBlocksTurned(t *testing.T) {
	want := [][]byte{filled(4), noughts(), filled(5)}
	first := laid(t, 4, 0, 3)
	s := opened(t, first, 0, 3)
	puts(t, s, 0, want[0])
	puts(t, s, 2, want[2])
	for at := range 64 {
		for _, mask := range []byte{1, 2, 4, 8, 16, 32, 64, 128, 3, 255} {
			d := first.Clone()
			ok(t, "Turn", d.Turn(3, at, mask))
			hasAll(t, opens(t, "the last block turned", d, 0, 3), want)
			stays(t, "Open", d, func() { hasAll(t, opened(t, d, 0, 3), want) })

			ok(t, "Turn", d.Turn(1, at, mask))
			s := opens(t, "the first block turned", d, 0, 3)
			misses(t, "turned", s, 0, api.ErrCorrupt)
			has(t, s, 1, want[1])
			has(t, s, 2, want[2])
			puts(t, s, 0, ones())
			has(t, s, 0, ones())
			hasAll(t, opened(t, d, 0, 3), [][]byte{ones(), want[1], want[2]})
		}
	}
}

// P9.5: any bits of a byte of the journal's sector are turned: all blocks are there still, and the number; what is put then is there behind a crash.
func TestJournalTurned(t *testing.T) {
	want := [][]byte{filled(4), noughts(), filled(5)}
	first := laid(t, 4, 0, 3)
	s := opened(t, first, 0, 3)
	puts(t, s, 0, want[0])
	puts(t, s, 2, want[2])
	for at := range 64 {
		for _, mask := range []byte{1, 2, 4, 8, 16, 32, 64, 128, 3, 255} {
			d := first.Clone()
			ok(t, "Turn", d.Turn(0, at, mask))
			s := opens(t, "the journal turned", d, 0, 3)
			counts(t, s, 3)
			hasAll(t, s, want)
			stops(t, d, crash{2, nil, -1}, func() api.Errno { return s.Put(1, ones()) })
			hasAll(t, opened(t, d, 0, 3), [][]byte{want[0], ones(), want[2]})
		}
	}
}

// P9.5: both are turned: the block that was put last is told as bad, and never as something else; put anew it is right.
func TestBlockAndJournalTurned(t *testing.T) {
	for at := range 64 {
		for _, mask := range []byte{1, 128, 255} {
			s, d := fresh(t, 3)
			puts(t, s, 0, filled(4))
			puts(t, s, 2, filled(5))
			ok(t, "Turn", d.Turn(3, at, mask))
			ok(t, "Turn", d.Turn(0, 63-at, mask))
			misses(t, "turned", s, 2, api.ErrCorrupt)
			s = opened(t, d, 0, 3, 2)
			counts(t, s, 2)
			misses(t, "turned", s, 2, api.ErrCorrupt)
			has(t, s, 0, filled(4))
			puts(t, s, 2, filled(6))
			has(t, s, 2, filled(6))
			hasAll(t, opened(t, d, 0, 3), [][]byte{filled(4), noughts(), filled(6)})
		}
	}
}

// run is a store that goes on through crashes, and what its blocks have to have.
type run struct {
	c    chance
	d    *disk.Disk
	s    *store.Store
	want [][]byte
}

// reopen opens the store anew; some Opens stop ahead of that, and crash.
func (r *run) reopen(t *testing.T, what string) {
	t.Helper()
	for r.c.below(3) == 0 {
		stops(t, r.d, crash{r.c.below(3), []bool{r.c.below(2) == 0}, r.c.below(3) - 1}, open(r.d, 1, len(r.want)))
	}
	r.s = opens(t, what, r.d, 1, len(r.want))
}

// put puts a block; some Puts stop, and crash: then it has what was being put, or what it had.
func (r *run) put(t *testing.T) {
	t.Helper()
	place, late := r.c.below(len(r.want)), r.c.data()
	if r.c.below(2) == 0 {
		beside(t, r.d, r.c.below(100))
	}
	if r.c.below(2) == 0 {
		puts(t, r.s, place, late)
		r.want[place] = late
		return
	}
	keeps := []bool{r.c.below(2) == 0, r.c.below(2) == 0, r.c.below(2) == 0}
	err := stops(t, r.d, crash{r.c.below(6), keeps, r.c.below(5) - 1}, func() api.Errno { return r.s.Put(place, late) })
	r.reopen(t, "behind a Put")
	got, fault := r.s.Get(place)
	if fault != api.OK || !bytes.Equal(got, late) && (err == api.OK || !bytes.Equal(got, r.want[place])) {
		t.Errorf("behind a crash in a Put (%v) block %d is %v, %v, beside %v and %v", err, place, got, fault, r.want[place], late)
	}
	r.want[place] = got
}

// turn turns bits of a block's sector, or of the journal's: the block is mended, or bad till it is put anew.
func (r *run) turn(t *testing.T) {
	t.Helper()
	at := 1 + r.c.below(1+len(r.want))
	ok(t, "Turn", r.d.Turn(at, r.c.below(64), byte(1+r.c.below(255))))
	r.reopen(t, "turned")
	place := at - 2
	if place < 0 {
		return
	}
	if got, err := r.s.Get(place); err != api.ErrCorrupt && !bytes.Equal(got, r.want[place]) {
		t.Errorf("turned, block %d is %v, %v, not %v", place, got, err, r.want[place])
	}
	r.want[place] = r.c.data()
	puts(t, r.s, place, r.want[place])
}

// P9.5: long runs of Puts and Opens that stop, of crashes, and of bits that are turned while nothing is being put.
func TestLongRuns(t *testing.T) {
	for seed := range 120 {
		blocks := []int{1, 2, 3, 64}[seed%4]
		r := run{c: chance(seed), d: laid(t, blocks+3, 1, blocks), want: slices.Repeat([][]byte{noughts()}, blocks)}
		r.reopen(t, "made")
		for range 50 {
			if r.c.below(5) == 0 {
				r.turn(t)
			} else {
				r.put(t)
			}
			hasAll(t, r.s, r.want)
			if t.Failed() {
				t.FailNow()
			}
		}
	}
}
