package dirty_test

import (
	"slices"
	"testing"

	"tandem/api"
	"tandem/dirty"
	"tandem/disk"
)

// crash is behind how many changes a call stops, which of the loose sectors a crash behind it keeps, which of those it tears.
type crash struct {
	changes int
	keeps   []bool
	tear    int
}

// crashes tells all of them for calls of up to four changes, on a disk of which so many sectors are loose at most.
func crashes(loose int) []crash {
	var l []crash
	for changes := range 6 {
		for set := range 1 << loose {
			keeps := make([]bool, loose)
			for i := range keeps {
				keeps[i] = set>>i&1 == 1
			}
			for tear := -1; tear <= loose; tear++ {
				l = append(l, crash{changes, keeps, tear})
			}
		}
	}
	return l
}

// beside writes the first and the last sector of a disk, loosely.
func beside(t *testing.T, d *disk.Disk, seed int) {
	t.Helper()
	ok(t, "Write", d.Write(0, garbage(seed)))
	ok(t, "Write", d.Write(d.Sectors()-1, garbage(seed+1)))
}

// does lets a call stop, and the disk crash, and tells what the call answered.
func (c crash) does(t *testing.T, d *disk.Disk, call func() api.Errno) api.Errno {
	t.Helper()
	ok(t, "Fuse", d.Fuse(c.changes))
	err := call()
	if want := c.changes >= 4; (err == api.OK) != want || err != api.OK && err != api.ErrBroken {
		t.Errorf("a call that stops behind %d changes: %v", c.changes, err)
	}
	ok(t, "Crash", d.Crash(c.keeps, c.tear))
	return err
}

// isKept and isTorn tell what becomes of the slot's sector that is written first, if the crash comes while it is loose: in a call that began with the disk's first sector loose, and its last one.
func (c crash) isKept() bool { return c.changes == 1 && len(c.keeps) > 1 && c.keeps[1] }

func (c crash) isTorn() bool {
	place := 0
	if c.isKept() && c.keeps[0] {
		place = 1
	}
	return c.isKept() && c.tear == place
}

// isSaved tells whether the slot has what was being saved: from the moment on at which its first sector is whole and firm, though the other one is torn.
func (c crash) isSaved() bool { return c.changes >= 2 || c.isKept() && !c.isTorn() }

// some tells few crashes that stand for all, ahead of each of which the sectors beside the slot are loose.
func some() []crash {
	both := []bool{true, true, true}
	return []crash{{0, both, -1}, {1, nil, -1}, {1, both, -1}, {1, both, 1}, {1, []bool{false, true}, 0}, {2, nil, -1}, {3, both, 0}, {3, both, -1}, {4, both, 0}}
}

// P10.3: wherever a Mark, a Merge or a Clear stops, whatever the crash keeps and tears: opened anew the map has the set that it had, or the one that was being saved, and that from then on, behind further crashes too; and a further call that stops goes on from there.
func TestCrashesInCalls(t *testing.T) {
	for i, x := range []call{mark(1), mark(63), merge(6), merge(all), cleared(8), cleared(all)} {
		_, first := fresh(t, 41)
		for _, a := range crashes(3) {
			d := first.Clone()
			m := opened(t, d, 1, 41)
			beside(t, d, 1)
			err := a.does(t, d, func() api.Errno { return x.do(m) })
			now := uint64(41)
			if a.isSaved() {
				now = x.made(now)
			}
			if err == api.OK {
				has(t, x.name, m, x.made(41))
			} else {
				has(t, x.name+" that stopped", m, 41)
			}
			for _, keep := range []bool{false, true} {
				opened(t, d, 1, now)
				beside(t, d, 3)
				ok(t, "Crash", d.Crash([]bool{keep, keep}, 1))
			}
			for _, b := range some() {
				e := d.Clone()
				m, y, then := opened(t, e, 1, now), []call{mark(2), cleared(1), merge(96), cleared(all)}[i%4], now
				beside(t, e, 5)
				if y.made(now) != now {
					b.does(t, e, func() api.Errno { return y.do(m) })
				}
				if b.isSaved() {
					then = y.made(now)
				}
				opened(t, e, 1, then)
			}
		}
	}
}

// P10.3: a map that was told an error has the set that it had, and goes on from there, whatever the crash left in the slot: what it saves then is its set, with or without the blocks of that call.
func TestGoneOnBehindACrash(t *testing.T) {
	for _, x := range []call{mark(1), merge(6), merge(all), cleared(8), cleared(all)} {
		for _, c := range crashes(3) {
			for _, y := range []call{mark(7), merge(1<<63 | 64), cleared(1), x} {
				m, d := fresh(t, 41)
				beside(t, d, 1)
				now := uint64(41)
				if c.does(t, d, func() api.Errno { return x.do(m) }) == api.OK {
					now = x.made(now)
				}
				ok(t, y.name, y.do(m))
				has(t, y.name, m, y.made(now))
				if y.made(now) != now {
					opened(t, d, 1, y.made(now))
				}
			}
		}
	}
}

// P10.1, P10.3: wherever a Make stops where nothing was saved ever: there is an empty map, or none; from the moment on at which a sector of it is firm there is one; and a further Make goes on from there.
func TestCrashesInMake(t *testing.T) {
	for _, c := range crashes(3) {
		d := made(t, 4)
		beside(t, d, 1)
		c.does(t, d, func() api.Errno { return dirty.Make(d, 1) })
		switch {
		case c.isSaved():
			opened(t, d, 1, 0)
		case c.isTorn():
			refused(t, "a first Make that was torn", d, 1, api.ErrCorrupt)
		default:
			refused(t, "a first Make that was lost", d, 1, api.ErrMissing)
		}
		ok(t, "Make", dirty.Make(d, 1))
		ok(t, "Mark", opened(t, d, 1, 0).Mark(9))
		opened(t, d, 1, 1<<9)
	}
}

// P10.1, P10.3: the same over a map that is there: it has the set that it had, or none.
func TestCrashesInMakeOverAnotherMap(t *testing.T) {
	for _, set := range []uint64{0, 41, all} {
		_, first := fresh(t, set)
		for _, c := range crashes(3) {
			d := first.Clone()
			beside(t, d, 1)
			c.does(t, d, func() api.Errno { return dirty.Make(d, 1) })
			now := set
			if c.isSaved() {
				now = 0
			}
			m := opened(t, d, 1, now)
			ok(t, "Merge", m.Merge(1<<33))
			opened(t, d, 1, now|1<<33)
		}
	}
}

// P10.3: what a call told OK outlives crashes, however many, whatever they keep and tear of what is loose beside the slot; what is marked is dirty till it is cleared.
func TestWhatWasSavedOutlivesCrashes(t *testing.T) {
	d := laid(t, 4, 1)
	set := uint64(0)
	for _, x := range []call{mark(0), mark(63), merge(0x0102030405060708), cleared(1 << 2), mark(2), merge(all), cleared(1 << 63), cleared(all)} {
		m := opened(t, d, 1, set)
		set = x.made(set)
		ok(t, x.name, x.do(m))
		for _, c := range crashes(2) {
			beside(t, d, c.changes)
			ok(t, "Crash", d.Crash(c.keeps, c.tear))
			has(t, x.name, m, set)
			opened(t, d, 1, set)
		}
	}
}

// P10.3: a sector of the slot was turned, then a call stops, and there is a crash: the other one has the set that the map had, till the new one is whole.
func TestCrashesBehindATurn(t *testing.T) {
	for half := range 2 {
		for _, at := range []int{0, 8, 10, 17, 31, 32, 54, 63} {
			for _, c := range crashes(3) {
				_, d := fresh(t, 41)
				ok(t, "Turn", d.Turn(1+half, at, 2))
				m := opened(t, d, 1, 41)
				beside(t, d, 1)
				c.does(t, d, func() api.Errno { return m.Merge(96) })
				now := uint64(41)
				if c.isSaved() {
					now = 41 | 96
				}
				m = opened(t, d, 1, now)
				beside(t, d, 3)
				c.does(t, d, func() api.Errno { return m.Clear(9) })
				if c.isSaved() {
					now &^= 9
				}
				opened(t, d, 1, now)
			}
		}
	}
}

// run is a map that goes on through crashes, and the set that it has to have.
type run struct {
	c    chance
	d    *disk.Disk
	m    *dirty.Map
	want uint64
}

// crash tells any one.
func (r *run) crash() crash {
	keeps := []bool{r.c.below(2) == 0, r.c.below(3) > 0, r.c.below(2) == 0}
	return crash{r.c.below(6), keeps, r.c.below(5) - 1}
}

// call lets a call be done, or stop, and the disk crash; then the map is opened anew, or goes on, if nothing kept it from that.
func (r *run) call(t *testing.T) {
	t.Helper()
	x, late := r.c.call(), uint64(0)
	if r.c.below(9) == 0 {
		x = call{"Make", func(*dirty.Map) api.Errno { return dirty.Make(r.d, 1) }, 0, all}
	}
	late = x.made(r.want)
	if r.c.below(3) == 0 || late == r.want && x.name != "Make" {
		ok(t, x.name, x.do(r.m))
		r.want = late
		if x.name == "Make" || r.c.below(2) == 0 {
			r.m = opened(t, r.d, 1, r.want)
		}
		return
	}
	beside(t, r.d, r.c.below(100))
	c := r.crash()
	c.does(t, r.d, func() api.Errno { return x.do(r.m) })
	if c.isSaved() {
		r.want = late
	}
	r.m = opened(t, r.d, 1, r.want)
}

// P10.3: long runs of calls that are done, or stop, of crashes, and of bits that are turned in one sector while both have the set.
func TestLongRuns(t *testing.T) {
	for seed := range 150 {
		r := run{c: chance(seed), d: laid(t, 4, 1)}
		r.m = opened(t, r.d, 1, 0)
		for range 60 {
			r.call(t)
			has(t, "in a long run", r.m, r.want)
			if l := firm(t, r.d); slices.Equal(l[1], l[2]) && r.c.below(3) == 0 {
				ok(t, "Turn", r.d.Turn(1+r.c.below(2), r.c.below(64), byte(1+r.c.below(255))))
				r.m = opened(t, r.d, 1, r.want)
			}
			if t.Failed() {
				t.FailNow()
			}
		}
	}
}
