package disk_test

import (
	"bytes"
	"math"
	"slices"
	"testing"

	"tandem/api"
	"tandem/disk"
)

// crashing tells a disk of 8 sectors, all firm with the byte 100, of which 1, 3, 4 and 7 are loose with their number, written falling.
func crashing(t *testing.T) *disk.Disk {
	t.Helper()
	d := made(t, 8)
	for at := range 8 {
		ok(t, "Write", d.Write(at, sector(100)))
	}
	ok(t, "Flush", d.Flush())
	for _, at := range []int{7, 4, 3, 1} {
		ok(t, "Write", d.Write(at, sector(77)))
		ok(t, "Write", d.Write(at, sector(byte(at))))
	}
	return d
}

// crashed holds each sector, behind a crash, against what is asked for: whole ones are as written, half is torn (-1: none), all others as they were firm; be it read at once, or behind another crash.
func crashed(t *testing.T, keeps []bool, tear int, whole []int, half int) {
	t.Helper()
	d := crashing(t)
	ok(t, "Crash", d.Crash(keeps, tear))
	up(t, d, true)
	loose(t, d)
	ops(t, d, 17)
	for range 2 {
		for at := range 8 {
			want := sector(100)
			if slices.Contains(whole, at) {
				want = sector(byte(at))
			}
			if at == half {
				want = torn(byte(at), 100)
			}
			if got, err := d.Read(at); !bytes.Equal(got, want) || err != api.OK {
				t.Errorf("Crash(%v, %d), Read(%d) = %v, %v, not %v", keeps, tear, at, got, err, want)
			}
		}
		ok(t, "Crash once more", d.Crash([]bool{true, true, true}, 0))
	}
}

// P4.4: the answers are those of the loose sectors, by rising numbers; where there is none it is false; those that are too many say nothing.
func TestCrashKeeps(t *testing.T) {
	const y, n = true, false
	crashed(t, nil, -1, nil, -1)
	crashed(t, []bool{}, -1, nil, -1)
	crashed(t, []bool{n, n, n, n}, -1, nil, -1)
	crashed(t, []bool{y}, -1, []int{1}, -1)
	crashed(t, []bool{n, y}, -1, []int{3}, -1)
	crashed(t, []bool{n, n, y}, -1, []int{4}, -1)
	crashed(t, []bool{n, n, n, y}, -1, []int{7}, -1)
	crashed(t, []bool{y, n, y}, -1, []int{1, 4}, -1)
	crashed(t, []bool{y, y, y}, -1, []int{1, 3, 4}, -1)
	crashed(t, []bool{y, y, y, y}, -1, []int{1, 3, 4, 7}, -1)
	crashed(t, []bool{n, n, n, n, y}, -1, nil, -1)
	crashed(t, []bool{n, n, n, n, y, y, y, y}, 0, nil, -1)
	crashed(t, append(slices.Repeat([]bool{y}, 4), slices.Repeat([]bool{n}, 3000)...), -1, []int{1, 3, 4, 7}, -1)
}

// P4.4: the torn one is counted among those that are kept, not among all that are loose; the first, the last one, none below 0, none beyond.
func TestCrashTears(t *testing.T) {
	const y, n = true, false
	all := []bool{y, y, y, y}
	crashed(t, all, 0, []int{3, 4, 7}, 1)
	crashed(t, all, 1, []int{1, 4, 7}, 3)
	crashed(t, all, 3, []int{1, 3, 4}, 7)
	for _, tear := range []int{-1, -2, math.MinInt, 4, 5, 7, 8, 1 << 32, math.MaxInt} {
		crashed(t, all, tear, []int{1, 3, 4, 7}, -1)
	}
	some := []bool{n, y, n, y}
	crashed(t, some, 0, []int{7}, 3)
	crashed(t, some, 1, []int{3}, 7)
	crashed(t, some, 2, []int{3, 7}, -1)
	crashed(t, some, 3, []int{3, 7}, -1)
	crashed(t, []bool{n, n, n, y, y}, 0, nil, 7)
	crashed(t, []bool{n, n, n, y, y}, 1, []int{7}, -1)
	crashed(t, []bool{y}, 0, nil, 1)
	crashed(t, []bool{y}, 1, []int{1}, -1)
	crashed(t, nil, 0, nil, -1)
	crashed(t, []bool{n, n, n, n}, 0, nil, -1)
}

// P4.4: of 1,024 loose sectors each other one is kept, and the last of those is torn.
func TestCrashOfAllSectors(t *testing.T) {
	d := made(t, 1024)
	keeps := make([]bool, 1024)
	for at := 1023; at >= 0; at-- {
		ok(t, "Write", d.Write(at, sector(byte(at%255+1))))
		keeps[at] = at%2 == 1
	}
	ok(t, "Crash", d.Crash(keeps, 511))
	for at := range 1023 {
		want := sector(0)
		if at%2 == 1 {
			want = sector(byte(at%255 + 1))
		}
		reads(t, d, at, want)
	}
	reads(t, d, 1023, torn(1023%255+1, 0))
}

// P4.4: a crash with nothing loose changes nothing but the fuse, and that the disk is out.
func TestCrashWithNothingLoose(t *testing.T) {
	d := disks(t)["firm"]
	was := look(d)
	ok(t, "Crash", d.Crash([]bool{true, true}, 0))
	same(t, "Crash", d, was)
	ok(t, "Fuse", d.Fuse(0))
	is(t, "Flush", d.Flush(), api.ErrBroken)
	ok(t, "Crash", d.Crash(nil, 0))
	same(t, "Crash", d, was)
}

// P4.5: a byte of what is firm is turned, the first and the last one too, of the first and the last sector; turned twice it is as it was; nothing else is turned, and it is no change.
func TestTurn(t *testing.T) {
	for _, at := range []int{0, 1, 31, 32, 62, 63} {
		for _, of := range []int{0, 2, 3} {
			for _, mask := range []byte{0, 1, 3, 128, 255} {
				d := disks(t)["firm"]
				was := look(d)
				b, _ := d.Read(of)
				b[at] ^= mask
				ok(t, "Turn", d.Turn(of, at, mask))
				reads(t, d, of, b)
				loose(t, d)
				ops(t, d, was.ops)
				for other := range 4 {
					if other != of && read(d, other) != was.reads[other] {
						t.Errorf("Turn(%d, %d, %d) turned %d", of, at, mask, other)
					}
				}
				ok(t, "Crash", d.Crash(nil, 0))
				reads(t, d, of, b)
				ok(t, "Turn", d.Turn(of, at, mask))
				same(t, "Turn, twice", d, was)
			}
		}
	}
}

// P4.5: of a sector that is loose what is loose stays; what is firm is turned, as a crash shows, which tears the turned one too; a flush lays what is loose over it.
func TestTurnOfWhatIsLoose(t *testing.T) {
	for _, at := range []int{0, 31, 32, 63} {
		d := crashing(t)
		ok(t, "Turn", d.Turn(3, at, 5))
		reads(t, d, 3, sector(3))
		loose(t, d, 1, 3, 4, 7)
		flushed, kept, half := d.Clone(), d.Clone(), d.Clone()
		firm := sector(100)
		firm[at] ^= 5
		ok(t, "Crash", d.Crash(nil, 0))
		reads(t, d, 3, firm)
		ok(t, "Flush", flushed.Flush())
		ok(t, "Crash", flushed.Crash(nil, 0))
		reads(t, flushed, 3, sector(3))
		ok(t, "Crash", kept.Crash([]bool{false, true}, 1))
		reads(t, kept, 3, sector(3))
		ok(t, "Crash", half.Crash([]bool{false, true}, 0))
		reads(t, half, 3, append(sector(3)[:32], firm[32:]...))
	}
}

// P4.5: a disk that is out is turned too, and stays out; the fuse is not used.
func TestTurnOfOneThatIsOut(t *testing.T) {
	d := disks(t)["out"]
	ok(t, "Turn", d.Turn(0, 63, 2))
	ok(t, "Turn", d.Turn(3, 0, 2))
	up(t, d, false)
	ops(t, d, 5)
	loose(t, d, 2, 3)
	is(t, "Turn of no sector", d.Turn(4, 0, 2), api.ErrRange)
	is(t, "Turn of no byte", d.Turn(0, 64, 2), api.ErrRange)
	ok(t, "Crash", d.Crash(nil, 0))
	reads(t, d, 0, append(sector(1)[:63], 3))
	reads(t, d, 3, append([]byte{2}, sector(0)[1:]...))
	d = disks(t)["loose, with a fuse of 0"]
	ok(t, "Turn", d.Turn(0, 0, 2))
	up(t, d, true)
	d = disks(t)["loose, with a fuse of 2"]
	ok(t, "Turn", d.Turn(0, 0, 2))
	if got := look(d).left; got != 2 {
		t.Error("behind a Turn the fuse allows", got)
	}
}

// P4.5: a sector, or a byte, that there is not is refused, and nothing is turned.
func TestWrongTurns(t *testing.T) {
	for name, d := range disks(t) {
		was := look(d)
		for _, of := range wrongSectors(4) {
			for _, at := range []int{0, 63, -1, 64} {
				is(t, "Turn of no sector", d.Turn(of, at, 255), api.ErrRange)
			}
		}
		for _, at := range []int{-1, -2, -64, math.MinInt, 64, 65, 128, 1 << 32, math.MaxInt} {
			for of := range 4 {
				is(t, "Turn of no byte", d.Turn(of, at, 255), api.ErrRange)
			}
		}
		same(t, "wrong turns of one that is "+name, d, was)
	}
}

// copied tells a copy of a value: behind a type parameter, since vet would not have a disk copied.
func copied[T any](p *T) *T {
	c := *p
	return &c
}

// Rule 5: of a disk that is nil, or that nobody made, all is ErrNil, ahead of whatever else is wrong, or nothing; so it is of what was copied, but not cloned.
func TestDisksThatNobodyMade(t *testing.T) {
	whole := crashing(t)
	was := look(whole)
	for name, d := range map[string]*disk.Disk{"nil": nil, "new(disk.Disk)": new(disk.Disk), "a literal": {}, "a copy": copied(whole), "a clone's copy": copied(whole.Clone())} {
		for _, at := range []int{0, 1, -1, 8, math.MaxInt} {
			is(t, name+": Write", d.Write(at, sector(9)), api.ErrNil)
			is(t, name+": Write of no bytes", d.Write(at, nil), api.ErrNil)
			is(t, name+": Turn", d.Turn(at, 0, 1), api.ErrNil)
			is(t, name+": Turn of no byte", d.Turn(at, 64, 1), api.ErrNil)
			is(t, name+": Fuse", d.Fuse(at), api.ErrNil)
			is(t, name+": Crash", d.Crash([]bool{true}, at), api.ErrNil)
			refuses(t, d, at, api.ErrNil)
		}
		is(t, name+": Flush", d.Flush(), api.ErrNil)
		up(t, d, false)
		ops(t, d, 0)
		loose(t, d)
		if d.Sectors() != 0 {
			t.Errorf("%s: Sectors() = %d", name, d.Sectors())
		}
		if c := d.Clone(); c != nil {
			t.Errorf("%s: Clone() = %p", name, c)
		}
	}
	same(t, "calls of its copy", whole, was)
}

// Rule 4: what is handed in is left as it is, and not kept: not the bytes of a Write, not the answers of a Crash; their spare room is not read.
func TestWhatIsHandedIn(t *testing.T) {
	room := append(sector(1), sector(2)...)
	was := slices.Clone(room)
	d := made(t, 2)
	ok(t, "Write", d.Write(0, room[:64]))
	is(t, "Write of 63 bytes", d.Write(1, room[:63]), api.ErrArg)
	clear(room[:64])
	reads(t, d, 0, sector(1))
	ok(t, "Flush", d.Flush())
	reads(t, d, 0, sector(1))
	copy(room, was)
	ok(t, "Write", d.Write(1, room[:64]))
	ok(t, "Turn", d.Turn(1, 0, 1))
	keeps := []bool{true, true, true}
	ok(t, "Write", d.Write(0, sector(3)))
	ok(t, "Crash", d.Crash(keeps[:1], 0))
	reads(t, d, 0, torn(3, 1))
	reads(t, d, 1, append([]byte{1}, sector(0)[1:]...))
	if !bytes.Equal(room, was) || !slices.Equal(keeps, []bool{true, true, true}) {
		t.Error("what was handed in is", room, keeps)
	}
}

// Rule 4: what is told is new memory, its spare room too: of Read, of what is loose and of what is firm, and of Loose.
func TestWhatIsTold(t *testing.T) {
	d := crashing(t)
	was := look(d)
	for at := range 8 {
		b, _ := d.Read(at)
		again, _ := d.Read(at)
		b = b[:cap(b)]
		for i := range b {
			b[i] = 200
		}
		if bytes.Contains(again[:cap(again)], []byte{200}) {
			t.Error("two answers of Read share memory")
		}
	}
	l, again := d.Loose(), d.Loose()
	l = l[:cap(l)]
	for i := range l {
		l[i] = 200
	}
	if slices.Contains(again[:cap(again)], 200) {
		t.Error("two answers of Loose share memory")
	}
	same(t, "changes of what was told", d, was)
}
