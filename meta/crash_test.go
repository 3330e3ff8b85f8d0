package meta_test

import (
	"bytes"
	"testing"

	"tandem/api"
	"tandem/disk"
	"tandem/meta"
)

// slotAt is where the slot lies: between sectors that are loose ahead of a Save.
const slotAt = 1

// crash is where a Save stops, which of the loose sectors a crash behind it keeps, which of those it tears.
type crash struct {
	changes int
	keeps   []bool
	tear    int
}

// crashes tells all of them for a disk of which so many sectors are loose at most.
func crashes(loose int) []crash {
	var l []crash
	for changes := range 5 {
		for set := range 1 << loose {
			keeps := make([]bool, loose)
			for i := range keeps {
				keeps[i] = set>>i&1 == 1
			}
			for tear := -1; tear <= loose; tear++ {
				l = append(l, crash{changes, keeps, tear})
			}
		}
	}
	return l
}

// beside writes the sectors ahead of the slot and behind it, loosely.
func beside(t *testing.T, d *disk.Disk) {
	t.Helper()
	ok(t, "Write", d.Write(slotAt-1, bytes.Repeat([]byte{7}, 64)))
	ok(t, "Write", d.Write(slotAt+2, bytes.Repeat([]byte{8}, 64)))
}

// saved lets a Save stop, and the disk crash, and tells what Save answered.
func saved(t *testing.T, d *disk.Disk, m api.Meta, c crash) api.Errno {
	t.Helper()
	ok(t, "Fuse", d.Fuse(c.changes))
	err := meta.Save(d, slotAt, m)
	if c.changes < 4 {
		is(t, "Save", err, api.ErrBroken)
	} else {
		ok(t, "Save", err)
	}
	ok(t, "Crash", d.Crash(c.keeps, c.tear))
	return err
}

// has tells which of two metas a slot has behind a crash: what was saved last, or what was being saved; the latter, if its first sector was flushed.
func has(t *testing.T, d *disk.Disk, old, late api.Meta, c crash) api.Meta {
	t.Helper()
	got, err := meta.Load(d, slotAt)
	if err != api.OK || got != late && (c.changes >= 2 || got != old) {
		t.Errorf("behind a crash (%v) in a Save the slot has %v, %v, beside %v and %v", c, got, err, old, late)
	}
	return got
}

// fields tells a meta of numbers that are far from those of another seed.
func fields(seed int) api.Meta {
	n := seed * 0x0102030405 % most
	return api.Meta{Term: n, Vote: seed%4 - 1, Rec: api.Record{Term: n ^ 0xff, N: n ^ 0xff00ff, Set: (seed + 1) % 4}, Boot: n ^ 0xffffffff}
}

// P6.3: wherever two Saves in a row stop, whatever each crash keeps and tears, of the slot and beside it: there is the meta that was saved last, or the one that was being saved, never parts of both; and a further Save goes on from there.
func TestCrashesInSaves(t *testing.T) {
	first := made(t, 4)
	ok(t, "Save", meta.Save(first, slotAt, fields(1)))
	olds, lates := 0, 0
	for _, a := range crashes(3) {
		d := first.Clone()
		beside(t, d)
		saved(t, d, fields(2), a)
		then := has(t, d, fields(1), fields(2), a)
		if then == fields(1) {
			olds++
		} else {
			lates++
		}
		for _, b := range crashes(1) {
			e := d.Clone()
			saved(t, e, fields(7), b)
			has(t, e, then, fields(7), b)
			ok(t, "Save", meta.Save(e, slotAt, fields(4)))
			loads(t, e, slotAt, fields(4))
		}
	}
	if olds == 0 || lates == 0 {
		t.Errorf("behind crashes there were %d old metas, %d new ones", olds, lates)
	}
}

// P6.3: where nothing was saved ever there is behind a crash what was being saved, or none; what was told as saved is there.
func TestCrashesInTheFirstSave(t *testing.T) {
	for _, c := range crashes(3) {
		d := made(t, 4)
		beside(t, d)
		saved(t, d, fields(3), c)
		got, err := meta.Load(d, slotAt)
		switch {
		case err == api.OK && got == fields(3) && c.changes > 0:
		case c.changes == 0 && err == api.ErrMissing && got == api.Meta{}:
		case c.changes == 1 && (err == api.ErrMissing || err == api.ErrCorrupt) && got == api.Meta{}:
		default:
			t.Errorf("behind a crash (%v) in the first Save there is %v, %v", c, got, err)
		}
		ok(t, "Save", meta.Save(d, slotAt, fields(5)))
		loads(t, d, slotAt, fields(5))
	}
}

// P6.3: what was saved outlives crashes, however many, whatever they keep and tear of what is loose beside it.
func TestWhatWasSavedOutlivesCrashes(t *testing.T) {
	d := made(t, 4)
	for _, m := range edges() {
		ok(t, "Save", meta.Save(d, slotAt, m))
		for _, c := range crashes(2) {
			beside(t, d)
			ok(t, "Crash", d.Crash(c.keeps, c.tear))
			loads(t, d, slotAt, m)
		}
	}
}

// P6.3: behind a Save a byte of one of both sectors is turned, each one: the meta is there still, and what is saved then.
func TestOneSectorTurned(t *testing.T) {
	for half := range 2 {
		for byteAt := range 64 {
			for bit := range 8 {
				d := made(t, 4)
				ok(t, "Save", meta.Save(d, slotAt, fields(1)))
				ok(t, "Save", meta.Save(d, slotAt, fields(2)))
				ok(t, "Turn", d.Turn(slotAt+half, byteAt, 1<<bit))
				loads(t, d, slotAt, fields(2))
				ok(t, "Crash", d.Crash(nil, 0))
				loads(t, d, slotAt, fields(2))
				ok(t, "Save", meta.Save(d, slotAt, fields(3)))
				loads(t, d, slotAt, fields(3))
			}
		}
	}
}

// P6.3: both sectors are turned: nothing that was saved is told, nor anything else; a Save begins anew.
func TestBothSectorsTurned(t *testing.T) {
	for byteAt := range 64 {
		d := made(t, 4)
		ok(t, "Save", meta.Save(d, slotAt, fields(2)))
		ok(t, "Turn", d.Turn(slotAt, byteAt, 1))
		ok(t, "Turn", d.Turn(slotAt+1, 63-byteAt, 128))
		misses(t, "both turned", d, slotAt, api.ErrCorrupt)
		ok(t, "Save", meta.Save(d, slotAt, fields(3)))
		loads(t, d, slotAt, fields(3))
	}
}

// chance tells numbers without a pattern, the same ones in every run.
type chance uint64

func (c *chance) below(n int) int {
	*c = *c*6364136223846793005 + 1442695040888963407
	return int(uint64(*c)>>33) % n
}

// P6.3: long runs of Saves that stop, of crashes, and of bits that are turned behind a Save that did not stop.
func TestLongRuns(t *testing.T) {
	c := chance(6)
	for range 200 {
		d := made(t, 4)
		now := fields(c.below(1000))
		ok(t, "Save", meta.Save(d, slotAt, now))
		for range 60 {
			if c.below(2) == 0 {
				beside(t, d)
			}
			keeps := []bool{c.below(2) == 0, c.below(2) == 0, c.below(2) == 0}
			how := crash{c.below(6), keeps, c.below(5) - 1}
			late := fields(c.below(1000))
			err := saved(t, d, late, how)
			now = has(t, d, now, late, how)
			if err == api.OK && c.below(2) == 0 {
				ok(t, "Turn", d.Turn(slotAt+c.below(2), c.below(64), byte(1+c.below(255))))
				loads(t, d, slotAt, now)
			}
			if t.Failed() {
				t.FailNow()
			}
		}
	}
}
