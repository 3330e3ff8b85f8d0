package journal_test

import (
	"bytes"
	"testing"

	"tandem/api"
	"tandem/disk"
	"tandem/journal"
)

// entryAt is where entries lie: between sectors that are loose ahead of a Write.
const entryAt = 1

// crash is where a Write stops, which of the loose sectors a crash behind it keeps, which of those it tears.
type crash struct {
	changes int
	keeps   []bool
	tear    int
}

// crashes tells all of them for a disk of which so many sectors are loose at most.
func crashes(loose int) []crash {
	var l []crash
	for changes := range 4 {
		for set := range 1 << loose {
			keeps := make([]bool, loose)
			for i := range keeps {
				keeps[i] = set>>i&1 == 1
			}
			for tear := -1; tear <= loose; tear++ {
				l = append(l, crash{changes, keeps, tear})
			}
		}
	}
	return l
}

// beside writes the sectors ahead of the entry and behind it, loosely.
func beside(t *testing.T, d *disk.Disk) {
	t.Helper()
	ok(t, "Write", d.Write(entryAt-1, bytes.Repeat([]byte{7}, 64)))
	ok(t, "Write", d.Write(entryAt+1, bytes.Repeat([]byte{8}, 64)))
}

// outcome is what there is behind a crash.
type outcome int

const (
	old outcome = iota
	late
	none
)

// due tells what there is behind a crash in a Write that began with so many sectors loose: one ahead of the entry's, if there was any, is the first of them.
func (c crash) due(loose int) outcome {
	own := min(loose, 1)
	place := 0
	for _, keeps := range c.keeps[:min(own, len(c.keeps))] {
		if keeps {
			place++
		}
	}
	kept := own < len(c.keeps) && c.keeps[own]
	switch {
	case c.changes == 0 || c.changes == 1 && !kept:
		return old
	case c.changes == 1 && c.tear == place:
		return none
	}
	return late
}

// stops lets a Write stop, and the disk crash, and holds what Last tells then against what is due; it tells whether there is an entry, and which one.
func stops(t *testing.T, d *disk.Disk, was, next api.Entry, isWas bool, c crash) (api.Entry, bool) {
	t.Helper()
	loose := len(d.Loose())
	ok(t, "Fuse", d.Fuse(c.changes))
	err := journal.Write(d, entryAt, next)
	if c.changes < 2 {
		is(t, "Write", err, api.ErrBroken)
		misses(t, "a disk that is out", d, entryAt, api.ErrBroken)
	} else {
		ok(t, "Write", err)
		last(t, d, entryAt, next)
	}
	ok(t, "Crash", d.Crash(c.keeps, c.tear))
	switch due := c.due(loose); {
	case due == late:
		last(t, d, entryAt, next)
		return next, true
	case due == old && isWas:
		last(t, d, entryAt, was)
		return was, true
	}
	misses(t, "behind a crash", d, entryAt, api.ErrMissing)
	return api.Entry{}, false
}

// P8.3: where none ever was, wherever a Write stops, whatever the crash keeps and tears, of it and beside it: there is the entry, or none; and a further Write goes on from there.
func TestCrashesInTheFirstWrite(t *testing.T) {
	for _, e := range edges() {
		for _, c := range crashes(3) {
			d := made(t, 3)
			beside(t, d)
			stops(t, d, api.Entry{}, e, false, c)
			ok(t, "Write", journal.Write(d, entryAt, one()))
			last(t, d, entryAt, one())
		}
	}
}

// P8.3: the same over another entry, with a higher number, and with a lower one; and in a second Write behind that: there is the one, the other, or none.
func TestCrashesInWrites(t *testing.T) {
	for _, numbers := range [][3]int{{1, 2, 3}, {9, 8, 7}, {most, 1, most}, {1, most, 258}} {
		first := made(t, 3)
		a := api.Entry{Block: 0, N: numbers[0], Data: filled(1)}
		b := api.Entry{Block: 63, N: numbers[1], Data: filled(2)}
		c := api.Entry{Block: 5, N: numbers[2], Data: filled(3)}
		ok(t, "Write", journal.Write(first, entryAt, a))
		for _, how := range crashes(3) {
			d := first.Clone()
			beside(t, d)
			now, isOne := stops(t, d, a, b, true, how)
			for _, then := range crashes(1) {
				e := d.Clone()
				stops(t, e, now, c, isOne, then)
				ok(t, "Write", journal.Write(e, entryAt, one()))
				last(t, e, entryAt, one())
			}
		}
	}
}

// P8.3: what was written outlives crashes, however many, whatever they keep and tear of what is loose beside it.
func TestWhatWasWrittenOutlivesCrashes(t *testing.T) {
	d := made(t, 3)
	for _, e := range edges() {
		ok(t, "Write", journal.Write(d, entryAt, e))
		for _, c := range crashes(2) {
			beside(t, d)
			ok(t, "Crash", d.Crash(c.keeps, c.tear))
			last(t, d, entryAt, e)
		}
	}
}

// P8.3: of what was written any bits of a byte are turned: there is none, and never another one; turned back, there it is again.
func TestTurned(t *testing.T) {
	for _, e := range edges() {
		d := made(t, 3)
		ok(t, "Write", journal.Write(d, entryAt, e))
		for at := range 64 {
			for mask := 1; mask < 256; mask++ {
				ok(t, "Turn", d.Turn(entryAt, at, byte(mask)))
				misses(t, "turned", d, entryAt, api.ErrMissing)
				ok(t, "Turn", d.Turn(entryAt, at, byte(mask)))
			}
			last(t, d, entryAt, e)
		}
	}
}

// P8.3: long runs of Writes that stop, and of crashes.
func TestLongRuns(t *testing.T) {
	c := chance(9)
	for range 200 {
		d := made(t, 3)
		var now api.Entry
		isOne := false
		for range 60 {
			if c.below(2) == 0 {
				beside(t, d)
			}
			keeps := []bool{c.below(2) == 0, c.below(2) == 0, c.below(2) == 0}
			now, isOne = stops(t, d, now, c.entry(), isOne, crash{c.below(4), keeps, c.below(5) - 1})
			if t.Failed() {
				t.FailNow()
			}
		}
	}
}
