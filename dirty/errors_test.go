package dirty_test

import (
	"slices"
	"testing"

	"tandem/api"
	"tandem/dirty"
	"tandem/disk"
)

// refusesPlace holds what Make and Open answer against what is asked for, and that neither changes the disk.
func refusesPlace(t *testing.T, what string, d *disk.Disk, at int, want api.Errno) {
	t.Helper()
	stays(t, what, d, func() {
		t.Helper()
		if err := dirty.Make(d, at); err != want {
			t.Errorf("%s: Make(%d) = %v, not %v", what, at, err, want)
		}
	})
	refused(t, what, d, at, want)
}

// P10.1: places below 0, and those from which the two sectors are not both there, whatever the one that is there has.
func TestWrongPlaces(t *testing.T) {
	for sectors := 1; sectors < 6; sectors++ {
		for _, d := range []*disk.Disk{made(t, sectors), littered(t, sectors), written(t, slices.Repeat([][]byte{setSector(3, 5)}, sectors)...)} {
			for _, at := range wrongPlaces(sectors) {
				refusesPlace(t, "a wrong place", d, at, api.ErrRange)
			}
		}
	}
	for _, at := range wrongPlaces(1024) {
		refusesPlace(t, "a wrong place", laid(t, 1024, 1022), at, api.ErrRange)
	}
}

// P10.1: a slot in which nothing was saved, wherever it lies, whatever stands beside it.
func TestOpenWhereNothingWasSaved(t *testing.T) {
	for _, p := range spots() {
		d := littered(t, p.sectors)
		ok(t, "Write", d.Write(p.at, make([]byte, 64)))
		refused(t, "a sector that is none, and noughts", d, p.at, api.ErrCorrupt)
		ok(t, "Write", d.Write(p.at+1, make([]byte, 64)))
		refused(t, "noughts", d, p.at, api.ErrMissing)
		refused(t, "a new disk", made(t, p.sectors), p.at, api.ErrMissing)
		if p.at > 0 {
			refused(t, "noughts in its second sector alone", d, p.at-1, api.ErrCorrupt)
		}
	}
}

// P10.1: one of both sectors is turned, in any bit: the map has the set still; both: it is told as corrupt, and a Make begins anew.
func TestOpenOfWhatIsTurned(t *testing.T) {
	for at := range 64 {
		for bit := range 8 {
			for half := range 2 {
				_, d := fresh(t, 41)
				ok(t, "Turn", d.Turn(1+half, at, 1<<bit))
				opened(t, d, 1, 41)
				ok(t, "Turn", d.Turn(2-half, (at+31)%64, 1<<bit))
				refused(t, "both turned", d, 1, api.ErrCorrupt)
				ok(t, "Make", dirty.Make(d, 1))
				opened(t, d, 1, 0)
			}
		}
	}
}

// P10.1: a record that has not eight bytes, in both sectors, or as the newest one beside a set.
func TestOpenOfOtherRecords(t *testing.T) {
	for size := range 41 {
		for _, rec := range [][]byte{make([]byte, size), garbage(4)[:size], garbage(254)[:size]} {
			sides := []*disk.Disk{
				written(t, slotSector(7, rec), slotSector(7, rec)),
				written(t, slotSector(7, rec), setSector(6, 5)),
				written(t, setSector(6, 5), slotSector(7, rec)),
				written(t, slotSector(7, rec), setSector(7, 5)),
				written(t, slotSector(most, rec), make([]byte, 64)),
				written(t, garbage(1), slotSector(1, rec)),
			}
			for _, d := range sides {
				if size != 8 {
					refused(t, "another record", d, 0, api.ErrCorrupt)
				} else if m, err := dirty.Open(d, 0); m == nil || err != api.OK {
					t.Errorf("eight bytes: Open = %p, %v", m, err)
				}
			}
		}
	}
}

// P10.1: a disk that is out is told ahead of places that there are not, of a slot in which nothing was saved, of one that is turned, or full; what was there is there behind a crash.
func TestOutAheadOfAllElse(t *testing.T) {
	for _, d := range []*disk.Disk{made(t, 4), littered(t, 4), written(t, setSector(most, 5), setSector(most, 5), slotSector(2, nil), slotSector(2, nil))} {
		out(t, d)
		for _, at := range append(wrongPlaces(4), 0, 1, 2) {
			refusesPlace(t, "a disk that is out", d, at, api.ErrBroken)
		}
	}
	m, d := fresh(t, 41)
	out(t, d)
	refusesPlace(t, "a disk that is out", d, 1, api.ErrBroken)
	refusesCalls(t, "a disk that is out", m, d, api.ErrBroken)
	ok(t, "Crash", d.Crash(nil, 0))
	opened(t, d, 1, 41)
	ok(t, "Mark", m.Mark(1))
	opened(t, d, 1, 43)
}

// refusesCalls holds that calls which would change a map's set (41) are told an error, and change neither that nor the disk.
func refusesCalls(t *testing.T, what string, m *dirty.Map, d *disk.Disk, want api.Errno) {
	t.Helper()
	stays(t, what, d, func() {
		t.Helper()
		for _, c := range []call{mark(1), mark(63), merge(2), merge(43), merge(all), cleared(1), cleared(42), cleared(all)} {
			is(t, what+": "+c.name, c.do(m), want)
			has(t, what+": "+c.name, m, 41)
		}
		for _, block := range wrongBlocks() {
			is(t, what+": Mark of a wrong block", m.Mark(block), api.ErrRange)
		}
		for _, c := range []call{mark(0), mark(5), merge(0), merge(33), cleared(0), cleared(^uint64(41))} {
			ok(t, what+": "+c.name+" of what is so", c.do(m))
		}
		has(t, what, m, 41)
	})
}

// P10.2: blocks that there are not, ahead of all that the disk says; that changes nothing, and the map goes on.
func TestWrongBlocks(t *testing.T) {
	for _, set := range []uint64{0, all, 41} {
		m, d := fresh(t, set)
		hold := func(what string) {
			t.Helper()
			stays(t, what, d, func() {
				t.Helper()
				for _, block := range wrongBlocks() {
					is(t, what, m.Mark(block), api.ErrRange)
					has(t, what, m, set)
				}
			})
		}
		hold("a wrong block")
		ok(t, "Fuse", d.Fuse(0))
		hold("a wrong block and no change left")
		is(t, "Flush", d.Flush(), api.ErrBroken)
		hold("a wrong block and a disk that is out")
		ok(t, "Crash", d.Crash(nil, 0))
		ok(t, "Clear", m.Clear(all))
		ok(t, "Mark", m.Mark(63))
		opened(t, d, 1, 1<<63)
	}
}

// P10.1, P10.2: a slot's number of 2^40, in whichever sector: it goes no further; the map has the set that it had, the slot has it, and nothing changes, now or later.
func TestFull(t *testing.T) {
	for _, d := range []*disk.Disk{
		written(t, garbage(1), setSector(most, 41), setSector(most, 41), garbage(2)),
		written(t, garbage(1), setSector(most, 41), setSector(most-1, 5), garbage(2)),
		written(t, garbage(1), setSector(most-1, 5), setSector(most, 41), garbage(2)),
		written(t, garbage(1), setSector(most, 41), make([]byte, 64), garbage(2)),
		written(t, garbage(1), garbage(3), setSector(most, 41), garbage(2)),
	} {
		m := opened(t, d, 1, 41)
		for _, fuse := range []int{9, 0} {
			ok(t, "Fuse", d.Fuse(fuse))
			refusesCalls(t, "full", m, d, api.ErrFull)
			stays(t, "Make", d, func() { is(t, "Make", dirty.Make(d, 1), api.ErrFull) })
			m = opened(t, d, 1, 41)
		}
		out(t, d)
		refusesCalls(t, "full and out", m, d, api.ErrBroken)
	}
}

// P10.2: ahead of 2^40 one change more is saved, and then it is full; when no sector is right any more, it goes on from 1.
func TestFullBehindOneChange(t *testing.T) {
	for _, c := range []call{mark(3), merge(42), cleared(6)} {
		d := written(t, garbage(1), setSector(most-1, 38), setSector(most-1, 38), garbage(2))
		was := d.Clone()
		m := opened(t, d, 1, 38)
		ok(t, c.name, c.do(m))
		late := c.made(38)
		keeps(t, c.name, d, was, 1, most, late)
		stays(t, "full", d, func() {
			is(t, "Merge", m.Merge(^late), api.ErrFull)
			is(t, "Clear", m.Clear(late), api.ErrFull)
			has(t, "full", m, late)
		})
		ok(t, "Turn", d.Turn(1, 5, 1))
		is(t, "one sector turned", m.Merge(^late), api.ErrFull)
		ok(t, "Turn", d.Turn(2, 5, 1))
		ok(t, "both turned", m.Merge(^late))
		keeps(t, "both turned", d, was, 1, 1, all)
	}
}

// stopped tells what the slot has firmly, and which of its sectors is loose (-1: none), behind so many changes of a save: both sectors had one number, so the second one is written first.
func stopped(old, late []byte, changes int) (l [2][]byte, loose int) {
	l, loose = [2][]byte{old, old}, -1
	if changes >= 2 {
		l[1] = late
	}
	if changes >= 4 {
		l[0] = late
	}
	switch changes {
	case 1:
		loose = 1
	case 3:
		loose = 0
	}
	return l, loose
}

// P10.1, P10.2: calls that stop at each change: the error is the disk's, the map has the set that it had, the disk has what was written up to there; a call that may make four changes is done.
func TestCallsThatStop(t *testing.T) {
	calls := []call{mark(1), mark(63), merge(6), merge(all), cleared(8), cleared(all)}
	for _, c := range calls {
		for changes := range 6 {
			m, d := fresh(t, 41)
			want, ops := firm(t, d), d.Ops()
			ok(t, "Fuse", d.Fuse(changes))
			err, now := c.do(m), uint64(41)
			if changes >= 4 {
				now = c.made(41)
				ok(t, c.name, err)
			} else {
				is(t, c.name, err, api.ErrBroken)
			}
			has(t, c.name, m, now)
			stops(t, c.name, d, want, setSector(3, c.made(41)), changes)
			if d.Ops() != ops+min(changes, 4) || d.Up() != (changes >= 4) {
				t.Errorf("%s that may make %d changes made %d; up: %v", c.name, changes, d.Ops()-ops, d.Up())
			}
		}
	}
	for changes := range 6 {
		m, d := fresh(t, 41)
		want := firm(t, d)
		ok(t, "Fuse", d.Fuse(changes))
		if err := dirty.Make(d, 1); (err == api.OK) != (changes >= 4) || err != api.OK && err != api.ErrBroken {
			t.Errorf("Make that may make %d changes: %v", changes, err)
		}
		has(t, "Make", m, 41)
		stops(t, "Make", d, want, setSector(3, 0), changes)
	}
}

// stops holds a disk behind so many changes of a save against what it is to have.
func stops(t *testing.T, what string, d *disk.Disk, was [][]byte, late []byte, changes int) {
	t.Helper()
	l, loose := stopped(was[1], late, changes)
	want := slices.Clone(was)
	want[1], want[2] = l[0], l[1]
	areSectors(t, what+": what is firm", firm(t, d), want)
	var at []int
	if loose >= 0 {
		at, want[1+loose] = []int{1 + loose}, late
	}
	areSectors(t, what+": what is written", whole(t, d), want)
	if !slices.Equal(d.Loose(), at) {
		t.Errorf("%s behind %d changes: loose: %v, not %v", what, changes, d.Loose(), at)
	}
}
