package slot_test

import (
	"bytes"
	"slices"
	"testing"

	"tandem/api"
	"tandem/disk"
	"tandem/slot"
)

// crash is where a Save stops, and what the crash behind it keeps of what is loose, and tears.
type crash struct {
	changes int
	keeps   []bool
	tear    int
}

// crashes tells all of them for a disk of which one sector is loose at most.
func crashes() []crash {
	var l []crash
	for changes := range 5 {
		for tear := -1; tear < 2; tear++ {
			l = append(l, crash{changes, nil, tear}, crash{changes, []bool{false}, tear}, crash{changes, []bool{true}, tear})
		}
	}
	return l
}

// saved lets a Save stop, and the disk crash, and tells what Save answered.
func saved(t *testing.T, d *disk.Disk, rec []byte, c crash) api.Errno {
	t.Helper()
	ok(t, "Fuse", d.Fuse(c.changes))
	err := slot.Save(d, 0, rec)
	ok(t, "Crash", d.Crash(c.keeps, c.tear))
	return err
}

// has tells which of two records a slot has behind a crash: what was saved last, or what was being saved; of a Save that answered OK the latter.
func has(t *testing.T, d *disk.Disk, old, late []byte, err api.Errno) []byte {
	t.Helper()
	got, fault := slot.Load(d, 0)
	if fault != api.OK || !bytes.Equal(got, late) && (err == api.OK || !bytes.Equal(got, old)) {
		t.Errorf("behind a crash in a Save (%v) the slot has %v, %v, beside %v and %v", err, got, fault, old, late)
	}
	return got
}

// P5.4: wherever three Saves in a row stop, whatever each crash keeps and tears: the slot has what was saved last, or what was being saved; and a further Save goes on from there.
func TestCrashesInSaves(t *testing.T) {
	for _, size := range []int{0, 5, 21, 22, 40} {
		first := made(t, 2)
		ok(t, "Save", slot.Save(first, 0, record(size, 0)))
		for _, a := range crashes() {
			d := first.Clone()
			then := has(t, d, record(size, 0), record(size, 3), saved(t, d, record(size, 3), a))
			for _, b := range crashes() {
				e := d.Clone()
				last := has(t, e, then, record(size, 4), saved(t, e, record(size, 4), b))
				for _, c := range crashes() {
					f := e.Clone()
					has(t, f, last, record(40-size, 7), saved(t, f, record(40-size, 7), c))
				}
				ok(t, "Save", slot.Save(e, 0, record(9, 9)))
				loads(t, e, 0, record(9, 9))
			}
		}
	}
}

// P5.4: where nothing was saved ever, the first Save's record is there behind a crash, or none; and what was told as saved is.
func TestCrashesInTheFirstSave(t *testing.T) {
	for _, c := range crashes() {
		d := made(t, 2)
		err := saved(t, d, record(20, 1), c)
		got, fault := slot.Load(d, 0)
		switch {
		case fault == api.OK && bytes.Equal(got, record(20, 1)):
		case err == api.ErrBroken && (fault == api.ErrMissing || fault == api.ErrCorrupt) && len(got) == 0:
		default:
			t.Errorf("behind a crash in the first Save (%v) the slot has %v, %v", err, got, fault)
		}
		ok(t, "Save", slot.Save(d, 0, record(21, 2)))
		loads(t, d, 0, record(21, 2))
	}
}

// P5.4: what was saved outlives crashes, whatever they keep and tear, and however many.
func TestWhatWasSavedOutlivesCrashes(t *testing.T) {
	d := made(t, 5)
	for i := range 20 {
		ok(t, "Save", slot.Save(d, 1, record(2*i, byte(i))))
		ok(t, "Write", d.Write(4, bytes.Repeat([]byte{byte(i)}, 64)))
		for _, c := range crashes() {
			ok(t, "Crash", d.Crash(c.keeps, c.tear))
			loads(t, d, 1, record(2*i, byte(i)))
		}
	}
}

// P5.4: behind a Save a byte of one of both sectors is turned, each one, in each bit and in several: the slot has it still, behind a crash too; and what is saved then.
func TestOneSectorTurned(t *testing.T) {
	for _, rec := range [][]byte{nil, record(1, 1), record(40, 2)} {
		for half := range 2 {
			for at := range 64 {
				for _, mask := range []byte{1, 2, 4, 8, 16, 32, 64, 128, 3, 255} {
					d := made(t, 2)
					ok(t, "Save", slot.Save(d, 0, record(30, 1)))
					ok(t, "Save", slot.Save(d, 0, rec))
					ok(t, "Turn", d.Turn(half, at, mask))
					loads(t, d, 0, rec)
					ok(t, "Crash", d.Crash(nil, 0))
					loads(t, d, 0, rec)
					ok(t, "Save", slot.Save(d, 0, record(6, 1)))
					reads(t, firm(t, d)[half], 3, record(6, 1))
					loads(t, d, 0, record(6, 1))
				}
			}
		}
	}
}

// P5.4: all of one sector is turned, into noughts too: the slot has what was saved still.
func TestAllOfOneSectorTurned(t *testing.T) {
	for half := range 2 {
		for _, to := range [][]byte{make([]byte, 64), bytes.Repeat([]byte{255}, 64)} {
			d := made(t, 2)
			ok(t, "Save", slot.Save(d, 0, record(12, 1)))
			was := firm(t, d)[half]
			for at := range 64 {
				ok(t, "Turn", d.Turn(half, at, was[at]^to[at]))
				loads(t, d, 0, record(12, 1))
			}
		}
	}
}

// P5.4: a sector was turned, and then a Save stops, and there is a crash: the other one has what was saved, till the new one is whole.
func TestCrashesBehindATurn(t *testing.T) {
	for half := range 2 {
		for _, at := range []int{0, 7, 8, 10, 31, 32, 54, 59, 60, 63} {
			for _, c := range crashes() {
				d := made(t, 2)
				ok(t, "Save", slot.Save(d, 0, record(30, 1)))
				ok(t, "Turn", d.Turn(half, at, 4))
				now := has(t, d, record(30, 1), record(25, 2), saved(t, d, record(25, 2), c))
				has(t, d, now, record(26, 3), saved(t, d, record(26, 3), c))
			}
		}
	}
}

// P5.2 to P5.4: both sectors turned, in any part: nothing that was saved is told, nor anything else; a Save begins anew.
func TestBothSectorsTurned(t *testing.T) {
	for at := range 64 {
		d := made(t, 2)
		ok(t, "Save", slot.Save(d, 0, record(30, 1)))
		ok(t, "Turn", d.Turn(0, at, 1))
		ok(t, "Turn", d.Turn(1, 63-at, 128))
		misses(t, d, 0, api.ErrCorrupt)
		ok(t, "Save", slot.Save(d, 0, record(31, 2)))
		loads(t, d, 0, record(31, 2))
		reads(t, firm(t, d)[0], 1, record(31, 2))
		reads(t, firm(t, d)[1], 1, record(31, 2))
	}
}

// chance tells numbers without a pattern, the same ones in every run.
type chance uint64

func (c *chance) below(n int) int {
	*c = *c*6364136223846793005 + 1442695040888963407
	return int(uint64(*c)>>33) % n
}

// P5.4: long runs of Saves that stop, of crashes, and of bits that are turned behind a Save that did not stop, on a disk with other sectors beside the slot.
func TestLongRuns(t *testing.T) {
	c := chance(5)
	for range 200 {
		d := made(t, 2)
		now := record(c.below(41), byte(c.below(255)))
		ok(t, "Save", slot.Save(d, 0, now))
		for range 60 {
			late := record(c.below(41), byte(c.below(255)))
			err := saved(t, d, late, crash{c.below(6), []bool{c.below(4) > 0}, c.below(3) - 1})
			now = slices.Clone(has(t, d, now, late, err))
			if err == api.OK && c.below(2) == 0 {
				ok(t, "Turn", d.Turn(c.below(2), c.below(64), byte(1+c.below(255))))
				loads(t, d, 0, now)
			}
			if t.Failed() {
				t.FailNow()
			}
		}
	}
}
