package slot_test

import (
	"bytes"
	"slices"
	"testing"

	"tandem/api"
	"tandem/disk"
	"tandem/slot"
)

// P5.3: what is saved is loaded, of all lengths, at the first and the last two sectors, and in between; the others stay; its numbers rise by one from 1 on.
func TestSaveAndLoad(t *testing.T) {
	for at := range 4 {
		edges := [][]byte{right(7, record(7, 1)).laid(), bytes.Repeat([]byte{7}, 64), bytes.Repeat([]byte{8}, 64), right(9, record(9, 1)).laid(), bytes.Repeat([]byte{9}, 64)}
		edges[at], edges[at+1] = make([]byte, 64), make([]byte, 64)
		d := with(t, edges...)
		for i, rec := range records() {
			ok(t, "Save", slot.Save(d, at, rec))
			loads(t, d, at, rec)
			edges[at] = right(i+1, rec).laid()
			edges[at+1] = edges[at]
			if !slices.EqualFunc(firm(t, d), edges, bytes.Equal) {
				t.Errorf("behind Save number %d at %d the sectors are %v, not %v", i+1, at, firm(t, d), edges)
			}
		}
	}
	d := made(t, 1024)
	ok(t, "Save", slot.Save(d, 1022, record(3, 1)))
	loads(t, d, 1022, record(3, 1))
	loads(t, d, 1021, record(3, 1))
	misses(t, d, 1020, api.ErrMissing)
}

// stages tells what both sectors of a slot have firmly, and which is loose as the new sector (-1: none), behind so many changes of a Save that writes a sector at first, then the other one.
func stages(p pair, fresh []byte, first, changes int) (l [2][]byte, loose int) {
	l, loose = [2][]byte{p[0].b, p[1].b}, -1
	switch changes {
	case 1:
		loose = first
	case 3:
		loose = 1 - first
	}
	if changes >= 2 {
		l[first] = fresh
	}
	if changes >= 4 {
		l[1-first] = fresh
	}
	return l, loose
}

// stopped holds a slot behind a Save that a fuse lets make so many changes against what it is to be.
func stopped(t *testing.T, p pair, rec []byte, first, changes int) {
	t.Helper()
	fresh := right(p[max(p.newest(), 0)].n+1, rec).laid()
	d := with(t, bytes.Repeat([]byte{7}, 64), p[0].b, p[1].b, bytes.Repeat([]byte{8}, 64))
	had := d.Ops()
	ok(t, "Fuse", d.Fuse(changes))
	want := api.ErrBroken
	if changes >= 4 {
		want = api.OK
	}
	is(t, "Save", slot.Save(d, 1, rec), want)
	if d.Ops()-had != min(changes, 4) || d.Up() != (changes >= 4) {
		t.Errorf("a Save that may make %d changes made %d; up: %v", changes, d.Ops()-had, d.Up())
	}
	l, loose := stages(p, fresh, first, changes)
	now := firm(t, d)
	if !bytes.Equal(now[1], l[0]) || !bytes.Equal(now[2], l[1]) {
		t.Errorf("behind %d changes of a Save that begins with %d the slot is firmly %v, not %v", changes, first, now[1:3], l)
	}
	if !bytes.Equal(now[0], bytes.Repeat([]byte{7}, 64)) || !bytes.Equal(now[3], bytes.Repeat([]byte{8}, 64)) {
		t.Error("a Save changed sectors beside the slot")
	}
	if loose < 0 && len(d.Loose()) > 0 || loose >= 0 && !slices.Equal(d.Loose(), []int{1 + loose}) {
		t.Errorf("behind %d changes loose are %v, not just %d of the slot", changes, d.Loose(), loose)
	}
	ok(t, "Crash", d.Crash([]bool{true}, -1))
	if b, _ := d.Read(1 + max(loose, 0)); loose >= 0 && !bytes.Equal(b, fresh) {
		t.Errorf("behind %d changes loose is %v, not %v", changes, b, fresh)
	}
}

// P5.3: whatever both sectors say, the one that is not the newest is written first (the first one, if none is right), and flushed, then the other one: four changes, with a number one more.
func TestSaveOfAllPairs(t *testing.T) {
	for _, p := range pairs() {
		newest := p.newest()
		if newest >= 0 && p[newest].n == most {
			continue
		}
		first := 0
		if newest == 0 {
			first = 1
		}
		for changes := range 7 {
			for _, rec := range [][]byte{nil, record(13, 7), record(40, 9)} {
				stopped(t, p, rec, first, changes)
			}
		}
	}
}

// P5.3: where the newest one's number is 2^40 a Save is refused, whichever one that is, and changes nothing; where a sector that has 2^40 is not right it goes on.
func TestSaveWhenFull(t *testing.T) {
	tried := 0
	for _, p := range pairs() {
		if p[0].n != most && p[1].n != most {
			continue
		}
		tried++
		d := with(t, p[0].b, p[1].b)
		for _, fuse := range []int{9, 0} {
			ok(t, "Fuse", d.Fuse(fuse))
			was := d.Clone()
			is(t, "Save", slot.Save(d, 0, record(3, 1)), api.ErrFull)
			is(t, "Save of 41 bytes", slot.Save(d, 0, make([]byte, 41)), api.ErrLong)
			same(t, "a Save when full", d, was)
		}
	}
	if tried < 20 {
		t.Error("full slots that were tried:", tried)
	}
	d := with(t, right(most-1, record(4, 1)).laid(), make([]byte, 64))
	ok(t, "Save", slot.Save(d, 0, record(5, 1)))
	reads(t, firm(t, d)[0], most, record(5, 1))
	reads(t, firm(t, d)[1], most, record(5, 1))
	is(t, "Save", slot.Save(d, 0, record(6, 1)), api.ErrFull)
	loads(t, d, 0, record(5, 1))
	ok(t, "Turn", d.Turn(0, 40, 1))
	is(t, "Save", slot.Save(d, 0, record(6, 1)), api.ErrFull)
	ok(t, "Turn", d.Turn(1, 3, 1))
	ok(t, "Save", slot.Save(d, 0, record(6, 1)))
	reads(t, firm(t, d)[0], 1, record(6, 1))
}

// refusesSaves holds what Save answers against what is asked for, of records that may be, or that are too long; and that it changes nothing.
func refusesSaves(t *testing.T, d *disk.Disk, at int, want api.Errno) {
	t.Helper()
	was := d.Clone()
	for _, rec := range [][]byte{nil, record(3, 1), record(40, 1)} {
		is(t, "Save", slot.Save(d, at, rec), want)
	}
	for _, size := range []int{41, 42, 54, 64, 256, 65536} {
		is(t, "Save of too long a record", slot.Save(d, at, make([]byte, size)), api.ErrLong)
	}
	same(t, "what is refused", d, was)
}

// P5.3: too long a record is told ahead of all that the disk says; a place that has not two sectors as that, and nothing is written to the one that there is.
func TestWrongSaves(t *testing.T) {
	for sectors := 1; sectors < 5; sectors++ {
		for _, at := range wrongPlaces(sectors) {
			refusesSaves(t, made(t, sectors), at, api.ErrRange)
		}
	}
	d := made(t, 3)
	is(t, "Save of 41 bytes", slot.Save(d, 1, make([]byte, 41)), api.ErrLong)
	same(t, "Save of 41 bytes", d, made(t, 3))
	ok(t, "Save", slot.Save(d, 1, make([]byte, 40)))
	refusesSaves(t, d, 2, api.ErrRange)
	refusesSaves(t, d, -1, api.ErrRange)
}

// P5.3: a disk that is out is told as that, behind too long a record, ahead of a place that it has not.
func TestSaveOfOneThatIsOut(t *testing.T) {
	d := out(t, 4)
	for _, at := range append(wrongPlaces(4), 0, 1, 2) {
		refusesSaves(t, d, at, api.ErrBroken)
	}
	ok(t, "Crash", d.Crash(nil, 0))
	loads(t, d, 0, record(3, 1))
	full := with(t, right(most, nil).laid(), right(most, nil).laid())
	ok(t, "Fuse", full.Fuse(0))
	is(t, "Flush", full.Flush(), api.ErrBroken)
	refusesSaves(t, full, 0, api.ErrBroken)
}

// P5.3: what was loose beside the slot is firm behind a Save, as behind each flush; what was loose in it counts as what it says.
func TestSaveWhereSomethingIsLoose(t *testing.T) {
	d := made(t, 3)
	ok(t, "Write", d.Write(2, bytes.Repeat([]byte{7}, 64)))
	ok(t, "Write", d.Write(1, right(5, record(5, 1)).laid()))
	ok(t, "Save", slot.Save(d, 0, record(6, 1)))
	l := firm(t, d)
	reads(t, l[0], 6, record(6, 1))
	reads(t, l[1], 6, record(6, 1))
	if !bytes.Equal(l[2], bytes.Repeat([]byte{7}, 64)) {
		t.Error("what was loose beside the slot is", l[2])
	}
}

// P5.3, rule 4: a record that is handed in is left as it is, not kept, and its spare room is not looked at.
func TestSaveOfWhatIsHandedIn(t *testing.T) {
	room := record(60, 1)
	was := slices.Clone(room)
	d := made(t, 2)
	ok(t, "Save", slot.Save(d, 0, room[:20]))
	if !bytes.Equal(room, was) {
		t.Error("Save changed what it was handed")
	}
	clear(room)
	loads(t, d, 0, was[:20])
	reads(t, firm(t, d)[1], 1, was[:20])
}
