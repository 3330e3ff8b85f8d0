package dirty_test

import (
	"slices"
	"testing"

	"tandem/api"
	"tandem/dirty"
	"tandem/disk"
)

// spot is where a map lies: on a disk of so many sectors, from one on.
type spot struct{ sectors, at int }

// spots tells maps in the first two sectors of a disk, in its last two, and in between.
func spots() []spot {
	return []spot{{2, 0}, {3, 0}, {3, 1}, {5, 0}, {5, 2}, {5, 3}, {69, 2}, {1024, 0}, {1024, 511}, {1024, 1022}}
}

// littered tells a disk of sectors that are none of a record.
func littered(t *testing.T, sectors int) *disk.Disk {
	t.Helper()
	var l [][]byte
	for at := range sectors {
		l = append(l, garbage(at%200))
	}
	return written(t, l...)
}

// keeps holds that a slot has a set, with a number, in both sectors, firmly, and all other sectors what they had.
func keeps(t *testing.T, what string, d, was *disk.Disk, at, n int, set uint64) {
	t.Helper()
	want := firm(t, was)
	want[at], want[at+1] = setSector(n, set), setSector(n, set)
	areSectors(t, what, firm(t, d), want)
	if len(d.Loose()) != 0 || !d.Up() {
		t.Errorf("%s: loose: %v, up: %v", what, d.Loose(), d.Up())
	}
}

// The chapter's examples, in their order.
func TestExamples(t *testing.T) {
	d := made(t, 2)
	ok(t, "Make", dirty.Make(d, 0))
	m := opened(t, d, 0, 0)
	has(t, "made", m, 0)
	ok(t, "Mark(3)", m.Mark(3))
	has(t, "marked", m, 8)
	m = opened(t, d, 0, 8)

	ok(t, "Merge(33)", m.Merge(33))
	ok(t, "Clear(8)", m.Clear(8))
	has(t, "merged and cleared", m, 33)

	is(t, "Mark(64)", m.Mark(64), api.ErrRange)
	refused(t, "a new disk", made(t, 2), 0, api.ErrMissing)

	ok(t, "Mark(3)", m.Mark(3))
	ops := d.Ops()
	ok(t, "Mark(3) once more", m.Mark(3))
	if d.Ops() != ops {
		t.Error("a second Mark made so many changes:", d.Ops()-ops)
	}
}

// P10.1: an empty map, wherever it lies, on a new disk and over what was there: both sectors have it, by four changes; all others stay.
func TestMake(t *testing.T) {
	for _, p := range spots() {
		for _, d := range []*disk.Disk{made(t, p.sectors), littered(t, p.sectors)} {
			was := d.Clone()
			ok(t, "Make", dirty.Make(d, p.at))
			keeps(t, "Make", d, was, p.at, 1, 0)
			if d.Ops() != was.Ops()+4 {
				t.Errorf("Make at %v: %d changes", p, d.Ops()-was.Ops())
			}
			opened(t, d, p.at, 0)
		}
	}
}

// P10.1: over a map that is there, empty or not: it is empty then, with a number one more, by four changes each time; a map that was opened ahead has the set that it had.
func TestMakeOverAnotherMap(t *testing.T) {
	for _, set := range sets() {
		m, d := fresh(t, set)
		was, n := d.Clone(), 2
		if set == 0 {
			n = 1
		}
		for i := range 3 {
			ops := d.Ops()
			ok(t, "Make", dirty.Make(d, 1))
			keeps(t, "Make over another map", d, was, 1, n+1+i, 0)
			if d.Ops() != ops+4 {
				t.Errorf("Make over another map: %d changes", d.Ops()-ops)
			}
			opened(t, d, 1, 0)
			has(t, "opened ahead of a Make", m, set)
		}
	}
}

// P10.1: over a record that is no map's, and over sectors that are turned, an empty map is made.
func TestMakeOverWhatIsNoMap(t *testing.T) {
	for _, size := range []int{0, 7, 9, 40} {
		d := written(t, garbage(1), slotSector(6, garbage(2)[:size]), slotSector(7, garbage(3)[:size]), garbage(4))
		was := d.Clone()
		ok(t, "Make", dirty.Make(d, 1))
		keeps(t, "Make over another record", d, was, 1, 8, 0)
		opened(t, d, 1, 0)
	}
	m, d := fresh(t, all)
	ok(t, "Turn", d.Turn(1, 12, 1))
	ok(t, "Make", dirty.Make(d, 1))
	keeps(t, "Make over one sector turned", d, d, 1, 3, 0)
	ok(t, "Mark", m.Mark(0))
	ok(t, "Turn", d.Turn(1, 12, 1))
	ok(t, "Turn", d.Turn(2, 60, 128))
	ok(t, "Make", dirty.Make(d, 1))
	keeps(t, "Make over both turned", d, d, 1, 1, 0)
	opened(t, d, 1, 0)
}

// P10.1: whatever set a slot has is that of the map, in whichever sector the newest one is, whatever the other one has; and nothing changes.
func TestOpen(t *testing.T) {
	for _, set := range sets() {
		opened(t, written(t, setSector(7, set), setSector(7, set)), 0, set)
		for _, other := range [][]byte{make([]byte, 64), garbage(1), setSector(6, set^5), setSector(1, ^set), slotSector(6, nil), slotSector(6, garbage(1)[:9])} {
			opened(t, written(t, setSector(7, set), other), 0, set)
			opened(t, written(t, garbage(1), other, setSector(7, set), setSector(8, 9)), 1, set)
		}
	}
	opened(t, written(t, setSector(5, 3), setSector(5, 4)), 0, 3)
	opened(t, written(t, setSector(most-1, 3), setSector(most, 4)), 0, 4)
}

// P10.1: wherever the slot lies, its two sectors are looked at, and no others.
func TestOpenAtAllPlaces(t *testing.T) {
	for _, p := range spots() {
		d := littered(t, p.sectors)
		if p.at > 0 {
			ok(t, "Write", d.Write(p.at-1, setSector(9, 1)))
		}
		if p.at+2 < p.sectors {
			ok(t, "Write", d.Write(p.at+2, setSector(9, 2)))
		}
		refused(t, "garbage between other sets", d, p.at, api.ErrCorrupt)
		for half := range 2 {
			ok(t, "Write", d.Write(p.at+half, setSector(3+half, 12)))
			opened(t, d, p.at, 12)
		}
	}
}

// P10.1: what is loose is opened, as it was written last.
func TestOpenOfWhatIsLoose(t *testing.T) {
	_, d := fresh(t, 5)
	ok(t, "Write", d.Write(2, setSector(9, 6)))
	opened(t, d, 1, 6)
	ok(t, "Write", d.Write(2, garbage(1)))
	opened(t, d, 1, 5)
	ok(t, "Write", d.Write(1, garbage(1)))
	refused(t, "both sectors are garbage, loosely", d, 1, api.ErrCorrupt)
	ok(t, "Crash", d.Crash(nil, 0))
	opened(t, d, 1, 5)
}

// P10.2: each block is marked, and cleared, alone, in an empty map, in a full one, and in others: the slot has that set, firmly, with a number one more, by four changes; all other sectors stay.
func TestEachBlock(t *testing.T) {
	for _, set := range []uint64{0, all, 0x0102030405060708, 0xaaaaaaaaaaaaaaaa, ^uint64(0xaaaaaaaaaaaaaaaa)} {
		for block := range 64 {
			for _, c := range []call{mark(block), merge(1 << block), cleared(1 << block)} {
				does(t, set, c)
			}
		}
	}
}

// does holds a call on a map that has a set against what is asked for.
func does(t *testing.T, set uint64, c call) {
	t.Helper()
	d := written(t, garbage(1), setSector(7, set), setSector(7, set), garbage(2))
	m := opened(t, d, 1, set)
	was, want := d.Clone(), c.made(set)
	ok(t, c.name, c.do(m))
	has(t, c.name, m, want)
	opened(t, d, 1, want)
	if want == set {
		same(t, c.name+" of what is so", d, was)
		return
	}
	keeps(t, c.name, d, was, 1, 8, want)
	if d.Ops() != was.Ops()+4 {
		t.Errorf("%s: %d changes", c.name, d.Ops()-was.Ops())
	}
}

// P10.2: several blocks at once, none, and all, of which a map has all, some, or none.
func TestSetsAtOnce(t *testing.T) {
	l := []uint64{0, all, 1, 1 << 63, 1<<63 | 1, 33, 41, 0x0102030405060708, 0xf0f0f0f0f0f0f0f0, 0xffffffff, 0xffffffff << 32}
	for _, set := range l {
		for _, other := range l {
			does(t, set, merge(other))
			does(t, set, cleared(other))
		}
	}
	for _, set := range sets() {
		for _, other := range []uint64{0, all, set, ^set} {
			does(t, set, merge(other))
			does(t, set, cleared(other))
		}
	}
}

// P10.1, P10.2: wherever a map lies, what is done to it is done in its two sectors.
func TestCallsAtAllPlaces(t *testing.T) {
	for _, p := range spots() {
		d := littered(t, p.sectors)
		was := d.Clone()
		ok(t, "Make", dirty.Make(d, p.at))
		m := opened(t, d, p.at, 0)
		set := uint64(0)
		for i, c := range []call{mark(0), mark(63), merge(33), cleared(1), merge(all), cleared(1 << 63), cleared(all)} {
			set = c.made(set)
			ok(t, c.name, c.do(m))
			keeps(t, c.name, d, was, p.at, 2+i, set)
			if i%2 == 0 {
				m = opened(t, d, p.at, set)
			}
		}
	}
}

// P10.1, P10.2: all 64 blocks are marked, and cleared, one by one, and each time the map is opened anew.
func TestAllBlocks(t *testing.T) {
	d := laid(t, 2, 0)
	set := uint64(0)
	for i := range 64 {
		block := i * 37 % 64
		ok(t, "Mark", opened(t, d, 0, set).Mark(block))
		set |= 1 << block
	}
	m := opened(t, d, 0, all)
	for i := range 64 {
		block := i * 29 % 64
		ok(t, "Clear", m.Clear(1<<block))
		set &^= 1 << block
		m = opened(t, d, 0, set)
	}
	has(t, "all cleared", m, 0)
}

// P10.2: what would stay as it is makes not one change, whatever the disk would say to one: none is left, it is out, it is in again, the slot is full, or turned.
func TestWhatStaysAsItIs(t *testing.T) {
	for _, set := range []uint64{0, all, 41, 1 << 63} {
		m, d := fresh(t, set)
		hold := func(what string) {
			t.Helper()
			stays(t, what, d, func() {
				t.Helper()
				for block := range 64 {
					if set>>block&1 == 1 {
						ok(t, what+": Mark", m.Mark(block))
					}
				}
				for _, other := range []uint64{0, set, set & 9, set & -set, set &^ (set & -set)} {
					ok(t, what+": Merge", m.Merge(other))
					ok(t, what+": Clear", m.Clear(^set&^other))
				}
				has(t, what, m, set)
			})
		}
		hold("at first")
		ok(t, "Fuse", d.Fuse(0))
		hold("no change left")
		is(t, "Flush", d.Flush(), api.ErrBroken)
		hold("out")
		ok(t, "Crash", d.Crash(nil, 0))
		hold("in again")
		for half := range 2 {
			ok(t, "Write", d.Write(1+half, setSector(most, set)))
			hold("full")
		}
		for half := range 2 {
			ok(t, "Write", d.Write(1+half, garbage(half)))
			hold("turned")
		}
	}
}

// Two maps on one disk, one right behind the other: no call on one touches the other one's sectors, or set.
func TestTwoMaps(t *testing.T) {
	d := laid(t, 4, 0)
	a := opened(t, d, 0, 0)
	ok(t, "Mark", a.Mark(3))
	low := firm(t, d)[:2]
	ok(t, "Make", dirty.Make(d, 2))
	b := opened(t, d, 2, 0)
	for _, c := range []call{mark(63), merge(96), cleared(32)} {
		ok(t, c.name, c.do(b))
	}
	areSectors(t, "the map ahead", firm(t, d)[:2], low)
	high := firm(t, d)[2:]
	for _, c := range []call{mark(5), merge(all), cleared(1)} {
		ok(t, c.name, c.do(a))
	}
	ok(t, "Make", dirty.Make(d, 0))
	ok(t, "Mark", a.Mark(0))
	areSectors(t, "the map behind", firm(t, d)[2:], high)
	for range 2 {
		has(t, "the map ahead", a, all)
		has(t, "the map behind", b, 1<<63|64)
		a, b = opened(t, d, 0, all), opened(t, d, 2, 1<<63|64)
	}
}

// P10.1, P10.2: two maps that were opened of one slot: each has a set of its own, which its own calls alone change; the slot has what was saved last, with a number one more each time.
func TestTwoMapsOfOneSlot(t *testing.T) {
	a, d := fresh(t, 1)
	b := opened(t, d, 1, 1)
	was := d.Clone()
	ok(t, "Mark", a.Mark(3))
	has(t, "the other one marked", b, 1)
	ok(t, "Merge", b.Merge(32))
	has(t, "the other one merged", a, 9)
	keeps(t, "Merge", d, was, 1, 4, 33)
	stays(t, "what stays as it is", d, func() {
		ok(t, "Mark", a.Mark(3))
		ok(t, "Clear", a.Clear(32))
		ok(t, "Clear", b.Clear(8))
	})
	opened(t, d, 1, 33)
	ok(t, "Mark", a.Mark(4))
	keeps(t, "Mark", d, was, 1, 5, 25)
	ok(t, "Clear", b.Clear(1))
	keeps(t, "Clear", d, was, 1, 6, 32)
	has(t, "at the end", a, 25)
	has(t, "at the end", b, 32)
}

// P10.2: what turns, or is written, in the slot behind the Open is not heard of; what is saved then is the map's set: with the first number, if no sector is right.
func TestSlotChangedBehindTheOpen(t *testing.T) {
	for at := range 64 {
		for half := range 2 {
			m, d := fresh(t, 5)
			ok(t, "Turn", d.Turn(1+half, at, 4))
			has(t, "one sector turned", m, 5)
			opened(t, d, 1, 5)
			ok(t, "Mark", m.Mark(1))
			keeps(t, "Mark", d, d, 1, 3, 7)
			ok(t, "Turn", d.Turn(1, at, 4))
			ok(t, "Turn", d.Turn(2, 63-at, 4))
			has(t, "both turned", m, 7)
			refused(t, "both turned", d, 1, api.ErrCorrupt)
			ok(t, "Clear", m.Clear(4))
			keeps(t, "Clear", d, d, 1, 1, 3)
			opened(t, d, 1, 3)
		}
	}
	for _, b := range [][]byte{make([]byte, 64), garbage(1), setSector(8, 96), slotSector(8, nil)} {
		m, d := fresh(t, 5)
		ok(t, "Write", d.Write(1, b))
		ok(t, "Write", d.Write(2, b))
		has(t, "other sectors", m, 5)
		ok(t, "Merge", m.Merge(2))
		opened(t, d, 1, 7)
	}
}

// What is loose beside the slot is firm behind a call that saves, as behind each flush, and loose still behind one that does not.
func TestWhatIsLooseBesideTheSlot(t *testing.T) {
	m, d := fresh(t, 5)
	ok(t, "Write", d.Write(0, garbage(1)))
	ok(t, "Write", d.Write(3, garbage(2)))
	stays(t, "Mark of what is marked", d, func() { ok(t, "Mark", m.Mark(0)) })
	want := whole(t, d)
	ok(t, "Mark", m.Mark(1))
	want[1], want[2] = setSector(3, 7), setSector(3, 7)
	areSectors(t, "Mark", firm(t, d), want)
}

// A map does its work on the disk that it was handed, not on a clone of it.
func TestOnTheDiskThatWasHandedIn(t *testing.T) {
	m, d := fresh(t, 5)
	twin := d.Clone()
	stays(t, "the twin", twin, func() { ok(t, "Mark", m.Mark(1)) })
	opened(t, d, 1, 7)
	other := opened(t, twin, 1, 5)
	stays(t, "the first one", d, func() { ok(t, "Clear", other.Clear(all)) })
	has(t, "the first one", m, 7)
	opened(t, twin, 1, 0)
}

// P10.1, P10.2: against a model of the document's words: long runs of all calls, on disks with other sectors beside the slot.
func TestAgainstAModel(t *testing.T) {
	c := chance(10)
	saves, others := 0, 0
	for range 150 {
		sectors := 2 + c.below(5)
		at := c.below(sectors - 1)
		d := littered(t, sectors)
		was, ops := d.Clone(), d.Ops()+4
		ok(t, "Make", dirty.Make(d, at))
		m, n, set := opened(t, d, at, 0), 1, uint64(0)
		for range 40 {
			x := c.call()
			if c.below(20) == 0 {
				x = call{"Make", func(*dirty.Map) api.Errno { return dirty.Make(d, at) }, 0, all}
			}
			ok(t, x.name, x.do(m))
			if late := x.made(set); late != set || x.name == "Make" {
				n, ops, set = n+1, ops+4, late
				saves++
			} else {
				others++
			}
			if x.name == "Make" || c.below(4) == 0 {
				m = opened(t, d, at, set)
			}
			has(t, x.name, m, set)
			keeps(t, x.name, d, was, at, n, set)
			if d.Ops() != ops {
				t.Errorf("%s: %d changes in all, not %d", x.name, d.Ops(), ops)
			}
			if t.Failed() {
				t.FailNow()
			}
		}
	}
	if saves < 100 || others < 100 {
		t.Errorf("%d calls saved, %d did not", saves, others)
	}
}

// Rule 5: disks that are nil, or that nobody made, are told ahead of all else.
func TestDisksThatNobodyMade(t *testing.T) {
	for what, d := range map[string]*disk.Disk{"nil": nil, "new(disk.Disk)": new(disk.Disk), "a literal": {}, "a copy": copied(laid(t, 4, 0)), "a copy of one that is out": copied(out(t, laid(t, 4, 0)))} {
		for _, at := range append(wrongPlaces(4), 0, 1, 2) {
			is(t, what+": Make", dirty.Make(d, at), api.ErrNil)
			refused(t, what, d, at, api.ErrNil)
		}
	}
}

// Rule 5: maps that are nil, or that nobody made, are told ahead of blocks that there are not, of a disk that is out, and of a set that would stay as it is.
func TestMapsThatNobodyMade(t *testing.T) {
	one, d := fresh(t, 41)
	two, e := fresh(t, 41)
	out(t, e)
	for what, m := range map[string]*dirty.Map{"nil": nil, "new(dirty.Map)": new(dirty.Map), "a literal": {}, "a copy": copied(one), "a copy of one whose disk is out": copied(two)} {
		for _, d := range []*disk.Disk{d, e} {
			stays(t, what, d, func() {
				t.Helper()
				for _, block := range slices.Concat(wrongBlocks(), []int{0, 1, 3, 63}) {
					is(t, what+": Mark", m.Mark(block), api.ErrNil)
				}
				for _, set := range []uint64{0, 1, 41, 96, all} {
					is(t, what+": Merge", m.Merge(set), api.ErrNil)
					is(t, what+": Clear", m.Clear(set), api.ErrNil)
				}
				has(t, what, m, 0)
			})
		}
	}
	has(t, "one that was opened", one, 41)
	has(t, "one whose disk is out", two, 41)
}
