package slot_test

import (
	"bytes"
	"testing"

	"tandem/api"
	"tandem/slot"
)

// The chapter's examples, in their order.
func TestExamples(t *testing.T) {
	a, b := record(7, 1), record(9, 2)
	d := made(t, 2)
	misses(t, d, 0, api.ErrMissing)
	ok(t, "Save(a)", slot.Save(d, 0, a))
	loads(t, d, 0, a)
	d = made(t, 2)
	ok(t, "Save(a)", slot.Save(d, 0, a))
	ok(t, "Save(b)", slot.Save(d, 0, b))
	ok(t, "Turn", d.Turn(1, 0, 1))
	loads(t, d, 0, b)
	ok(t, "Turn", d.Turn(0, 0, 1))
	misses(t, d, 0, api.ErrCorrupt)
	is(t, "Save of 41 bytes", slot.Save(d, 0, make([]byte, 41)), api.ErrLong)
	misses(t, d, 1, api.ErrRange)
	refuses(t, "64 noughts", make([]byte, 64), api.ErrMissing)
	refuses(t, "64 bytes 1", bytes.Repeat([]byte{1}, 64), api.ErrCorrupt)
	refuses(t, "none", nil, api.ErrBytes)
}

// P5.2: whatever both sectors say: missing if both are noughts; corrupt if none is right; else the newest one's record, the first one's where both have one number; and nothing is changed.
func TestLoadOfAllPairs(t *testing.T) {
	for _, p := range pairs() {
		d := with(t, p[0].b, p[1].b)
		was := d.Clone()
		switch newest := p.newest(); {
		case p[0].noughts && p[1].noughts:
			misses(t, d, 0, api.ErrMissing)
		case newest < 0:
			misses(t, d, 0, api.ErrCorrupt)
		default:
			loads(t, d, 0, p[newest].rec)
		}
		same(t, "Load", d, was)
	}
}

// P5.2: a slot at the first and the last two sectors, and in between: it looks at both of its own, and at no others.
func TestLoadAtAllPlaces(t *testing.T) {
	old, late := right(4, record(4, 1)).laid(), right(5, record(5, 2)).laid()
	for at := range 4 {
		for turn := range 2 {
			d := with(t, bytes.Repeat([]byte{7}, 64), right(most, record(8, 1)).laid(), right(1, nil).laid(), make([]byte, 64), right(most, record(9, 1)).laid())
			ok(t, "Write", d.Write(at+turn, old))
			ok(t, "Write", d.Write(at+1-turn, late))
			loads(t, d, at, record(5, 2))
			ok(t, "Flush", d.Flush())
			loads(t, d, at, record(5, 2))
		}
	}
	d := made(t, 1024)
	ok(t, "Write", d.Write(1023, old))
	loads(t, d, 1022, record(4, 1))
	misses(t, d, 1021, api.ErrMissing)
	misses(t, d, 1023, api.ErrRange)
}

// P5.2: what is loose is loaded, as it was written last.
func TestLoadOfWhatIsLoose(t *testing.T) {
	d := with(t, right(4, record(4, 1)).laid(), right(5, record(5, 2)).laid())
	ok(t, "Write", d.Write(0, right(6, record(6, 1)).laid()))
	loads(t, d, 0, record(6, 1))
	ok(t, "Write", d.Write(0, make([]byte, 64)))
	loads(t, d, 0, record(5, 2))
	ok(t, "Write", d.Write(1, make([]byte, 64)))
	misses(t, d, 0, api.ErrMissing)
}

// P5.2: a place that has not two sectors is told as that, whatever the one that it has says.
func TestLoadAtWrongPlaces(t *testing.T) {
	for sectors := 1; sectors < 5; sectors++ {
		d := made(t, sectors)
		for at := range sectors {
			ok(t, "Write", d.Write(at, right(4, record(4, 1)).laid()))
		}
		was := d.Clone()
		for _, at := range wrongPlaces(sectors) {
			misses(t, d, at, api.ErrRange)
		}
		same(t, "Load", d, was)
	}
}

// P5.2: a disk that is out is told as that, ahead of a place that it has not.
func TestLoadOfOneThatIsOut(t *testing.T) {
	d := out(t, 4)
	for _, at := range append(wrongPlaces(4), 0, 1, 2) {
		misses(t, d, at, api.ErrBroken)
	}
	ok(t, "Crash", d.Crash(nil, 0))
	loads(t, d, 0, record(3, 1))
}

// P5.2, P5.3, rule 5: a disk that nobody made is told ahead of all else that is wrong.
func TestDisksThatNobodyMade(t *testing.T) {
	for name, d := range unmade(t) {
		for _, at := range append(wrongPlaces(4), 0, 1) {
			misses(t, d, at, api.ErrNil)
			is(t, name+": Save", slot.Save(d, at, record(3, 1)), api.ErrNil)
			is(t, name+": Save of none", slot.Save(d, at, nil), api.ErrNil)
			is(t, name+": Save of 41 bytes", slot.Save(d, at, make([]byte, 41)), api.ErrNil)
		}
	}
}

// P5.2, rule 4: what is told is new memory: no later Load tells what was made of it.
func TestLoadTellsNewMemory(t *testing.T) {
	d := made(t, 2)
	ok(t, "Save", slot.Save(d, 0, record(20, 1)))
	was := d.Clone()
	got, err := slot.Load(d, 0)
	ok(t, "Load", err)
	other, _ := slot.Load(d, 0)
	fill(got, 200)
	if !bytes.Equal(other, record(20, 1)) {
		t.Error("two answers of Load share memory")
	}
	loads(t, d, 0, record(20, 1))
	same(t, "what was made of an answer", d, was)
}
