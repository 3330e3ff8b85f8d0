package disk_test

import (
	"bytes"
	"fmt"
	"math"
	"reflect"
	"slices"
	"testing"

	"tandem/api"
	"tandem/disk"
)

// sector tells a sector of one byte, 64 times; torn one whose first half is of one byte, the other half of another one.
func sector(c byte) []byte { return bytes.Repeat([]byte{c}, 64) }

func torn(c, rest byte) []byte { return append(sector(c)[:32], sector(rest)[:32]...) }

// made tells a new disk.
func made(t *testing.T, sectors int) *disk.Disk {
	t.Helper()
	d, err := disk.New(sectors)
	if d == nil || err != api.OK {
		t.Fatalf("New(%d) = %p, %v", sectors, d, err)
	}
	return d
}

// is holds what a call answered against what is asked for; ok against OK.
func is(t *testing.T, call string, got, want api.Errno) {
	t.Helper()
	if got != want {
		t.Errorf("%s = %v, not %v", call, got, want)
	}
}

func ok(t *testing.T, call string, got api.Errno) {
	t.Helper()
	is(t, call, got, api.OK)
}

// reads and refuses hold what Read answers against what is asked for.
func reads(t *testing.T, d *disk.Disk, at int, want []byte) {
	t.Helper()
	if got, err := d.Read(at); !bytes.Equal(got, want) || err != api.OK {
		t.Errorf("Read(%d) = %v, %v, not %v", at, got, err, want)
	}
}

func refuses(t *testing.T, d *disk.Disk, at int, want api.Errno) {
	t.Helper()
	if got, err := d.Read(at); len(got) != 0 || err != want {
		t.Errorf("Read(%d) = %v, %v, not none, %v", at, got, err, want)
	}
}

// loose and ops hold what a disk tells of itself against what is asked for.
func loose(t *testing.T, d *disk.Disk, want ...int) {
	t.Helper()
	if got := d.Loose(); !slices.Equal(got, want) {
		t.Errorf("Loose() = %v, not %v", got, want)
	}
}

func ops(t *testing.T, d *disk.Disk, want int) {
	t.Helper()
	if got := d.Ops(); got != want {
		t.Errorf("Ops() = %d, not %d", got, want)
	}
}

func up(t *testing.T, d *disk.Disk, want bool) {
	t.Helper()
	if got := d.Up(); got != want {
		t.Errorf("Up() = %v", got)
	}
}

// wrongSectors tells numbers of which a disk, of so many sectors, has none.
func wrongSectors(sectors int) []int {
	return []int{-1, -2, -sectors, math.MinInt, sectors, sectors + 1, sectors + 1<<32, 1 << 32, math.MaxInt}
}

// wrongTexts tells bytes that are not a sector's.
func wrongTexts() [][]byte {
	return [][]byte{nil, {}, {7}, sector(7)[:32], sector(7)[:63], append(sector(7), 7), append(sector(7), sector(7)...)}
}

// state is what can be told of a disk: what it says of itself, what it reads, what it has firmly, and how many changes more its fuse allows (enough: more than were tried).
type state struct {
	up                 bool
	sectors, ops, left int
	loose              []int
	reads, firm        []string
}

const enough = 12

// String tells it with sectors quoted, so that a fault that a test tells can be read.
func (s state) String() string {
	return fmt.Sprintf("{up %v, sectors %d, ops %d, left %d, loose %v, reads %q, firm %q}", s.up, s.sectors, s.ops, s.left, s.loose, s.reads, s.firm)
}

// read tells a sector as a text; none: that it is refused.
func read(d *disk.Disk, at int) string {
	b, err := d.Read(at)
	if err != api.OK {
		return err.Error()
	}
	return string(b)
}

// look tells a disk's state; on clones it does what would change it.
func look(d *disk.Disk) state {
	s := state{up: d.Up(), sectors: d.Sectors(), ops: d.Ops(), loose: append([]int{}, d.Loose()...)}
	for used := d.Clone(); s.left < enough && used.Flush() == api.OK; {
		s.left++
	}
	crashed := d.Clone()
	crashed.Crash(nil, 0)
	for at := range s.sectors {
		s.reads = append(s.reads, read(d, at))
		s.firm = append(s.firm, read(crashed, at))
	}
	return s
}

// same holds a disk against a state that it had.
func same(t *testing.T, call string, d *disk.Disk, was state) {
	t.Helper()
	if now := look(d); !reflect.DeepEqual(now, was) {
		t.Errorf("%s: the disk is %v, not %v", call, now, was)
	}
}

// disks tells disks of 4 sectors in all conditions: new; with sectors firm and loose; with a fuse that allows some changes, or none; out, with loose ones or without.
func disks(t *testing.T) map[string]*disk.Disk {
	t.Helper()
	l := map[string]*disk.Disk{"new": made(t, 4), "new, with a fuse of 0": made(t, 4)}
	l["new, with a fuse of 0"].Fuse(0)
	d := made(t, 4)
	d.Write(0, sector(1))
	d.Write(2, sector(2))
	d.Flush()
	l["firm"] = d.Clone()
	d.Write(2, sector(3))
	d.Write(3, sector(4))
	l["loose"] = d.Clone()
	d.Fuse(2)
	l["loose, with a fuse of 2"] = d.Clone()
	d.Fuse(0)
	l["loose, with a fuse of 0"] = d.Clone()
	d.Flush()
	l["out"] = d.Clone()
	return l
}

// P4.1 to P4.5: the chapter's examples.
func TestExamples(t *testing.T) {
	a, b := sector(1), sector(2)
	d := made(t, 4)
	ok(t, "Write(0, a)", d.Write(0, a))
	reads(t, d, 0, a)
	ok(t, "Crash(none, 0)", d.Crash(nil, 0))
	reads(t, d, 0, sector(0))

	d = made(t, 4)
	ok(t, "Write(0, a)", d.Write(0, a))
	ok(t, "Flush", d.Flush())
	ok(t, "Write(0, b)", d.Write(0, b))
	ok(t, "Write(2, b)", d.Write(2, b))
	ok(t, "Crash(true true, 1)", d.Crash([]bool{true, true}, 1))
	reads(t, d, 0, b)
	reads(t, d, 2, torn(2, 0))

	d = made(t, 4)
	ok(t, "Fuse(1)", d.Fuse(1))
	ok(t, "Write(0, a)", d.Write(0, a))
	is(t, "Flush", d.Flush(), api.ErrBroken)
	up(t, d, false)
	refuses(t, d, 0, api.ErrBroken)

	d = made(t, 4)
	ok(t, "Write(0, a)", d.Write(0, a))
	ok(t, "Flush", d.Flush())
	ok(t, "Turn(0, 5, 3)", d.Turn(0, 5, 3))
	reads(t, d, 0, append(append(sector(1)[:5], 2), sector(1)[:58]...))

	is(t, "Write(4, a)", d.Write(4, a), api.ErrRange)
	is(t, "Write(0, 3 bytes)", d.Write(0, a[:3]), api.ErrArg)
	if none, err := disk.New(0); none != nil || err != api.ErrRange {
		t.Error("New(0):", none, err)
	}
}

// P4.1: a new disk has so many sectors, of noughts; it is up, nothing is loose, there was no change, and there is no fuse.
func TestNew(t *testing.T) {
	for _, sectors := range []int{1, 2, 3, 63, 64, 65, 1023, 1024} {
		d := made(t, sectors)
		want := state{up: true, sectors: sectors, left: enough, loose: []int{}}
		for range sectors {
			want.reads = append(want.reads, string(sector(0)))
			want.firm = append(want.firm, string(sector(0)))
		}
		same(t, "New", d, want)
	}
	if api.MaxSectors != 1024 {
		t.Error("MaxSectors:", api.MaxSectors)
	}
}

// P4.1: there are no disks of less than one sector, nor of more than 1,024.
func TestNewOfWrongSizes(t *testing.T) {
	for _, sectors := range []int{0, -1, -2, -1024, math.MinInt, 1025, 1026, 2048, 1 << 32, 1<<32 + 1, math.MaxInt} {
		if d, err := disk.New(sectors); d != nil || err != api.ErrRange {
			t.Errorf("New(%d) = %p, %v, not nil, ErrRange", sectors, d, err)
		}
	}
}

// P4.1: two new disks are two.
func TestNewDisksAreTwo(t *testing.T) {
	d, other := made(t, 3), made(t, 3)
	was := look(other)
	ok(t, "Write", d.Write(1, sector(1)))
	same(t, "Write of the other one", other, was)
	ok(t, "Flush", d.Flush())
	ok(t, "Turn", d.Turn(2, 0, 1))
	ok(t, "Fuse", d.Fuse(0))
	is(t, "Flush", d.Flush(), api.ErrBroken)
	same(t, "changes of the other one", other, was)
}

// P4.1: Loose behind a Write, another one of the same sector, one of what is there already, a Flush, a Crash, a Turn.
func TestLoose(t *testing.T) {
	d := made(t, 5)
	loose(t, d)
	for _, w := range []struct {
		at   int
		want []int
	}{{3, []int{3}}, {0, []int{0, 3}}, {4, []int{0, 3, 4}}, {3, []int{0, 3, 4}}, {1, []int{0, 1, 3, 4}}} {
		ok(t, "Write", d.Write(w.at, sector(1)))
		loose(t, d, w.want...)
	}
	ok(t, "Flush", d.Flush())
	loose(t, d)
	ok(t, "Turn", d.Turn(2, 2, 2))
	loose(t, d)
	ok(t, "Write of what is there", d.Write(3, sector(1)))
	ok(t, "Write of what is there", d.Write(2, sector(0)))
	loose(t, d, 2, 3)
	ok(t, "Crash", d.Crash([]bool{false, true}, 9))
	loose(t, d)
	ok(t, "Write", d.Write(4, sector(2)))
	ok(t, "Fuse", d.Fuse(0))
	is(t, "Flush", d.Flush(), api.ErrBroken)
	loose(t, d, 4)
	ok(t, "Crash", d.Crash(nil, 0))
	loose(t, d)
}

// P4.1: all 1,024 sectors may be loose at once; they are told rising, in whatever order they were written.
func TestLooseOfAllSectors(t *testing.T) {
	d := made(t, 1024)
	var all []int
	for i := range 1024 {
		ok(t, "Write", d.Write(i*637%1024, sector(byte(i))))
		all = append(all, i)
	}
	loose(t, d, all...)
	ok(t, "Flush", d.Flush())
	loose(t, d)
	for i := range 1024 {
		reads(t, d, i*637%1024, sector(byte(i)))
	}
}

// P4.1: Ops counts each Write and each Flush that answers OK, be there something to flush or not; it counts nothing else, and no crash sets it back.
func TestOps(t *testing.T) {
	d := made(t, 4)
	ops(t, d, 0)
	d.Write(0, sector(1))
	ops(t, d, 1)
	d.Write(0, sector(1))
	ops(t, d, 2)
	d.Flush()
	ops(t, d, 3)
	d.Flush()
	ops(t, d, 4)
	d.Read(0)
	d.Turn(0, 0, 1)
	d.Loose()
	d.Clone().Flush()
	d.Fuse(1)
	ops(t, d, 4)
	d.Write(4, sector(1))
	d.Write(0, sector(1)[:63])
	d.Read(4)
	d.Turn(4, 0, 1)
	d.Fuse(-1)
	ops(t, d, 4)
	d.Write(3, sector(1))
	ops(t, d, 5)
	for range 3 {
		is(t, "Flush", d.Flush(), api.ErrBroken)
		is(t, "Write", d.Write(0, sector(1)), api.ErrBroken)
	}
	ops(t, d, 5)
	d.Crash([]bool{true}, 0)
	ops(t, d, 5)
	d.Flush()
	ops(t, d, 6)
}

// P4.1: a clone is as its disk is, in all conditions, by its sectors, firm and loose, by its fuse and its changes, and by whether it is out.
func TestCloneIsAsItsDisk(t *testing.T) {
	for name, d := range disks(t) {
		was := look(d)
		c := d.Clone()
		if c == nil || c == d {
			t.Fatalf("%s: Clone() = %p of %p", name, c, d)
		}
		same(t, "the clone of one that is "+name, c, was)
		same(t, "Clone of one that is "+name, d, was)
		same(t, "the clone's clone of one that is "+name, c.Clone(), was)
	}
	d := disks(t)["loose, with a fuse of 2"].Clone()
	reads(t, d, 0, sector(1))
	reads(t, d, 2, sector(3))
	loose(t, d, 2, 3)
	ops(t, d, 5)
	ok(t, "Write", d.Write(1, sector(9)))
	ok(t, "Flush", d.Flush())
	is(t, "Flush", d.Flush(), api.ErrBroken)
	ops(t, d, 7)
}

// changes tells all that can be done to a disk of 4 sectors.
func changes() map[string]func(d *disk.Disk) {
	return map[string]func(d *disk.Disk){
		"Write of a firm one":    func(d *disk.Disk) { d.Write(0, sector(8)) },
		"Write of a loose one":   func(d *disk.Disk) { d.Write(2, sector(8)) },
		"Flush":                  func(d *disk.Disk) { d.Flush() },
		"Crash":                  func(d *disk.Disk) { d.Crash(nil, 0) },
		"Crash that keeps":       func(d *disk.Disk) { d.Crash([]bool{true, true}, 0) },
		"Turn":                   func(d *disk.Disk) { d.Turn(2, 7, 255) },
		"Fuse":                   func(d *disk.Disk) { d.Fuse(1) },
		"Fuse of 0, and a Flush": func(d *disk.Disk) { d.Fuse(0); d.Flush() },
	}
}

// P4.1: whatever is done to a disk, its clone stays as it is; and the other way round.
func TestCloneIsAnotherDisk(t *testing.T) {
	for name, d := range disks(t) {
		for call, change := range changes() {
			was, clone, other := look(d), d.Clone(), d.Clone()
			change(clone)
			same(t, call+" of the clone of one that is "+name, d, was)
			change(other)
			same(t, call+" of another clone of one that is "+name, clone, look(other))
			kept := other.Clone()
			was = look(kept)
			change(other)
			same(t, call+" of one that is "+name+", cloned ahead", kept, was)
		}
	}
}

// P4.2: what is written is read, loose and firm, at the first sector, at the last one; the others stay.
func TestWriteFlushRead(t *testing.T) {
	for _, sectors := range []int{1, 2, 5, 1024} {
		d := made(t, sectors)
		last := sectors - 1
		ok(t, "Write", d.Write(last, sector(1)))
		reads(t, d, last, sector(1))
		ok(t, "Write", d.Write(0, sector(2)))
		reads(t, d, 0, sector(2))
		ok(t, "Flush", d.Flush())
		reads(t, d, 0, sector(2))
		ok(t, "Write", d.Write(0, torn(3, 4)))
		ok(t, "Write", d.Write(0, torn(5, 6)))
		reads(t, d, 0, torn(5, 6))
		if last > 0 {
			reads(t, d, last, sector(1))
		}
		for at := 1; at < last; at++ {
			reads(t, d, at, sector(0))
		}
		ok(t, "Flush", d.Flush())
		ok(t, "Crash", d.Crash(nil, 0))
		reads(t, d, 0, torn(5, 6))
	}
}

// P4.2: each byte of a sector is kept at its place.
func TestEachByteAtItsPlace(t *testing.T) {
	b := make([]byte, 64)
	for i := range b {
		b[i] = byte(3*i + 1)
	}
	d := made(t, 2)
	ok(t, "Write", d.Write(1, b))
	reads(t, d, 1, b)
	ok(t, "Flush", d.Flush())
	reads(t, d, 1, b)
	reads(t, d, 0, sector(0))
}

// P4.2: a sector that there is not is refused, ahead of bytes that are not a sector's; so are those.
func TestWrongWritesAndReads(t *testing.T) {
	for name, d := range disks(t) {
		if !d.Up() {
			continue
		}
		was := look(d)
		for _, at := range wrongSectors(4) {
			refuses(t, d, at, api.ErrRange)
			is(t, "Write of no sector", d.Write(at, sector(7)), api.ErrRange)
			for _, b := range wrongTexts() {
				is(t, "Write of no sector, wrong bytes", d.Write(at, b), api.ErrRange)
			}
		}
		for _, b := range wrongTexts() {
			for at := range 4 {
				is(t, "Write of wrong bytes", d.Write(at, b), api.ErrArg)
			}
		}
		same(t, "what is wrong, of one that is "+name, d, was)
	}
}

// P4.2, P4.3: of a disk that is out, ErrBroken is told ahead of all that is wrong otherwise.
func TestOut(t *testing.T) {
	d := disks(t)["out"]
	was := look(d)
	up(t, d, false)
	is(t, "Flush", d.Flush(), api.ErrBroken)
	for _, at := range append(wrongSectors(4), 0, 1, 2, 3) {
		refuses(t, d, at, api.ErrBroken)
		for _, b := range append(wrongTexts(), sector(7)) {
			is(t, "Write", d.Write(at, b), api.ErrBroken)
		}
	}
	for _, n := range []int{-1, 0, 1, 100, math.MinInt, math.MaxInt} {
		is(t, "Fuse", d.Fuse(n), api.ErrBroken)
	}
	same(t, "what is refused", d, was)
	if d.Sectors() != 4 {
		t.Error("Sectors() of one that is out:", d.Sectors())
	}
	ops(t, d, 5)
	loose(t, d, 2, 3)
	ok(t, "Crash", d.Crash([]bool{true}, 4))
	up(t, d, true)
	reads(t, d, 2, sector(3))
	reads(t, d, 3, sector(0))
	ok(t, "Write", d.Write(3, sector(5)))
	ok(t, "Flush", d.Flush())
}

// P4.3: behind as many changes as the fuse says, and not ahead, the next one is refused, a Write or a Flush, and only that one puts the disk out.
func TestFuse(t *testing.T) {
	for n := range 6 {
		for last := range 2 {
			d := made(t, 4)
			ok(t, "Fuse", d.Fuse(n))
			for i := range n {
				up(t, d, true)
				if i%3 == 2 {
					ok(t, "Flush", d.Flush())
				} else {
					ok(t, "Write", d.Write(i%4, sector(byte(i+1))))
				}
			}
			up(t, d, true)
			read(d, 0)
			was := look(d)
			if last == 0 {
				is(t, "Write", d.Write(0, sector(9)), api.ErrBroken)
			} else {
				is(t, "Flush", d.Flush(), api.ErrBroken)
			}
			up(t, d, false)
			ops(t, d, n)
			loose(t, d, was.loose...)
			if now := look(d); !slices.Equal(now.firm, was.firm) {
				t.Error("what was refused changed what is firm, behind a fuse of", n)
			}
		}
	}
}

// P4.3: what is no change uses nothing of the fuse: what is read, turned, told, cloned, or refused.
func TestFuseIsUsedByChangesAlone(t *testing.T) {
	d := made(t, 4)
	ok(t, "Fuse", d.Fuse(2))
	for range 5 {
		d.Read(0)
		d.Turn(0, 0, 1)
		d.Clone().Flush()
		d.Loose()
		d.Write(4, sector(1))
		d.Write(-1, sector(1))
		d.Write(0, sector(1)[:63])
		d.Write(0, append(sector(1), 1))
		d.Fuse(-1)
	}
	ok(t, "Write", d.Write(0, sector(1)))
	ok(t, "Flush", d.Flush())
	is(t, "Flush", d.Flush(), api.ErrBroken)
}

// P4.2, P4.3: with a fuse that is used up, wrong bytes and a sector that there is not are told as what they are, and do not put the disk out; Read goes on.
func TestUsedUpFuseAndWrongBytes(t *testing.T) {
	d := made(t, 4)
	ok(t, "Write", d.Write(1, sector(1)))
	ok(t, "Fuse", d.Fuse(0))
	was := look(d)
	is(t, "Write of 63 bytes", d.Write(0, sector(1)[:63]), api.ErrArg)
	is(t, "Write of 65 bytes", d.Write(0, append(sector(1), 1)), api.ErrArg)
	is(t, "Write of no sector", d.Write(4, sector(1)), api.ErrRange)
	is(t, "Write of no sector", d.Write(-1, nil), api.ErrRange)
	is(t, "Fuse(-1)", d.Fuse(-1), api.ErrArg)
	refuses(t, d, 4, api.ErrRange)
	reads(t, d, 1, sector(1))
	same(t, "what is wrong", d, was)
	up(t, d, true)
	is(t, "Write", d.Write(0, sector(1)), api.ErrBroken)
	up(t, d, false)
}

// P4.3: a fuse that is said anew counts from then on, whatever was said ahead, be that used up or not.
func TestFuseSaidAnew(t *testing.T) {
	for _, first := range []int{0, 1, 2, 7, math.MaxInt} {
		for _, anew := range []int{0, 1, 3, 9} {
			d := made(t, 4)
			ok(t, "Fuse", d.Fuse(first))
			if first > 0 {
				ok(t, "Write", d.Write(0, sector(1)))
			}
			ok(t, "Fuse anew", d.Fuse(anew))
			if got := look(d).left; got != anew {
				t.Errorf("Fuse(%d), Fuse(%d): %d changes are allowed", first, anew, got)
			}
		}
	}
}

// P4.3: a number below 0 is refused, and leaves the fuse that was there, or none.
func TestFuseBelowNought(t *testing.T) {
	for _, n := range []int{-1, -2, -100, math.MinInt} {
		d := made(t, 2)
		is(t, "Fuse", d.Fuse(n), api.ErrArg)
		if got := look(d).left; got != enough {
			t.Errorf("Fuse(%d) of one without a fuse: %d changes are allowed", n, got)
		}
		d.Fuse(3)
		is(t, "Fuse", d.Fuse(n), api.ErrArg)
		if got := look(d).left; got != 3 {
			t.Errorf("Fuse(3), Fuse(%d): %d changes are allowed", n, got)
		}
	}
}

// P4.4: a crash takes the fuse away, be it used up, or not, or has it put the disk out.
func TestCrashTakesTheFuseAway(t *testing.T) {
	for _, n := range []int{0, 1, 5} {
		for _, isOut := range []bool{false, true} {
			d := made(t, 4)
			ok(t, "Fuse", d.Fuse(n))
			for i := 0; isOut && i <= n; i++ {
				d.Write(i%4, sector(1))
			}
			up(t, d, !isOut)
			ok(t, "Crash", d.Crash(nil, 0))
			up(t, d, true)
			if got := look(d).left; got != enough {
				t.Errorf("Fuse(%d), Crash: %d changes are allowed", n, got)
			}
			ok(t, "Fuse", d.Fuse(1))
			ok(t, "Flush", d.Flush())
			is(t, "Flush", d.Flush(), api.ErrBroken)
		}
	}
}
