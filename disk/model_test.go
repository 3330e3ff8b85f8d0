package disk_test

import (
	"slices"
	"testing"

	"tandem/api"
	"tandem/disk"
)

// model is a disk as the document's words tell it: what each sector has firmly, what was written since the last flush, in that order, and how many changes the fuse allowed, when it was said, and when that was.
type model struct {
	firm      []string
	since     []written
	done      int
	fused     bool
	fuse, had int
	out       bool
}

type written struct {
	at int
	b  string
}

func newModel(sectors int) *model {
	return &model{firm: slices.Repeat([]string{string(sector(0))}, sectors)}
}

// last tells what was written last to a sector, since the last flush.
func (m *model) last(at int) (string, bool) {
	for _, w := range slices.Backward(m.since) {
		if w.at == at {
			return w.b, true
		}
	}
	return "", false
}

// loose tells the sectors that are loose, by asking of each one.
func (m *model) loose() []int {
	l := []int{}
	for at := range m.firm {
		if _, is := m.last(at); is {
			l = append(l, at)
		}
	}
	return l
}

// change tells what a change is answered.
func (m *model) change() api.Errno {
	if m.fused && m.done-m.had >= m.fuse {
		m.out = true
		return api.ErrBroken
	}
	m.done++
	return api.OK
}

func (m *model) write(at int, b string) api.Errno {
	switch {
	case m.out:
		return api.ErrBroken
	case at < 0 || at >= len(m.firm):
		return api.ErrRange
	case len(b) != 64:
		return api.ErrArg
	}
	err := m.change()
	if err == api.OK {
		m.since = append(m.since, written{at, b})
	}
	return err
}

func (m *model) flush() api.Errno {
	if m.out {
		return api.ErrBroken
	}
	err := m.change()
	if err == api.OK {
		for _, w := range m.since {
			m.firm[w.at] = w.b
		}
		m.since = nil
	}
	return err
}

func (m *model) say(n int) api.Errno {
	switch {
	case m.out:
		return api.ErrBroken
	case n < 0:
		return api.ErrArg
	}
	m.fused, m.fuse, m.had = true, n, m.done
	return api.OK
}

func (m *model) turn(of, at int, mask byte) api.Errno {
	if of < 0 || of >= len(m.firm) || at < 0 || at > 63 {
		return api.ErrRange
	}
	was := m.firm[of]
	m.firm[of] = was[:at] + string([]byte{was[at] ^ mask}) + was[at+1:]
	return api.OK
}

func (m *model) crash(keeps []bool, tear int) api.Errno {
	stays := 0
	for i, at := range m.loose() {
		if len(keeps) <= i || !keeps[i] {
			continue
		}
		b, _ := m.last(at)
		if stays == tear {
			b = b[:32] + m.firm[at][32:]
		}
		m.firm[at] = b
		stays++
	}
	m.since, m.out, m.fused = nil, false, false
	return api.OK
}

// look tells the model's state.
func (m *model) look() state {
	s := state{up: !m.out, sectors: len(m.firm), ops: m.done, left: enough, loose: m.loose(), firm: slices.Clone(m.firm)}
	if m.fused {
		s.left = min(enough, m.fuse-(m.done-m.had))
	}
	for at, b := range m.firm {
		if w, is := m.last(at); is {
			b = w
		}
		if m.out {
			b = api.ErrBroken.Error()
			s.left = 0
		}
		s.reads = append(s.reads, b)
	}
	return s
}

// chance tells numbers without a pattern, the same ones in every run.
type chance uint64

func (c *chance) below(n int) int {
	*c = *c*6364136223846793005 + 1442695040888963407
	return int(uint64(*c)>>33) % n
}

// text tells a sector without a pattern; at times one byte less, or more.
func (c *chance) text() []byte {
	size := 64
	if c.below(12) == 0 {
		size = 63 + 2*c.below(2)
	}
	b := make([]byte, size)
	for i := range b {
		b[i] = byte(c.below(256))
	}
	return b
}

// step does the same to a disk and to its model, and tells what both answered.
func (c *chance) step(d *disk.Disk, m *model) (string, api.Errno, api.Errno) {
	at := c.below(len(m.firm)+2) - 1
	switch c.below(20) {
	case 0, 1:
		return "Flush", d.Flush(), m.flush()
	case 2, 3:
		keeps := make([]bool, c.below(len(m.firm)+2))
		for i := range keeps {
			keeps[i] = c.below(3) > 0
		}
		tear := c.below(len(m.firm)+3) - 1
		return "Crash", d.Crash(keeps, tear), m.crash(keeps, tear)
	case 4, 5:
		i, mask := c.below(68)-2, byte(c.below(256))
		return "Turn", d.Turn(at, i, mask), m.turn(at, i, mask)
	case 6:
		n := c.below(9) - 1
		return "Fuse", d.Fuse(n), m.say(n)
	}
	b := c.text()
	return "Write", d.Write(at, b), m.write(at, string(b))
}

// P4.1 to P4.6: whatever is done to a disk, and to clones of it, it answers and is as the document's words say.
func TestAsTheModel(t *testing.T) {
	c := chance(11)
	told := map[string]int{}
	for run := range 150 {
		sectors := 1 + run%6
		d, m := made(t, sectors), newModel(sectors)
		for range 60 {
			if c.below(15) == 0 {
				d = d.Clone()
			}
			call, got, want := c.step(d, m)
			told[call+" "+want.Error()]++
			is(t, call, got, want)
			same(t, call, d, m.look())
			if t.Failed() {
				t.FailNow()
			}
		}
	}
	for _, call := range []string{"Write error 0", "Write error 2", "Write error 5", "Write error 10", "Flush error 0", "Flush error 10", "Fuse error 0", "Fuse error 2", "Fuse error 10", "Turn error 0", "Turn error 5", "Crash error 0"} {
		if told[call] < 20 {
			t.Errorf("%s: tried %d times alone", call, told[call])
		}
	}
}

// script is what is done to a disk of 4 sectors, of which the last one is never written: each writes a sector; below 0 it flushes.
func script() []int { return []int{0, 1, 2, -1, 2, 0, 2, 1, -1, 1, 1, 0, -1, -1, 2, 1, 0} }

// run does a script as far as a fuse lets it: what was flushed of each sector, and what was written to it since.
func run(t *testing.T, fuse int) (d *disk.Disk, firm [4]byte, since map[int]byte) {
	t.Helper()
	d, since = made(t, 4), map[int]byte{}
	ok(t, "Fuse", d.Fuse(fuse))
	for i, at := range script() {
		if at >= 0 && d.Write(at, sector(byte(i+1))) == api.OK {
			since[at] = byte(i + 1)
		}
		if at < 0 && d.Flush() == api.OK {
			for at, b := range since {
				firm[at] = b
			}
			clear(since)
		}
	}
	return d, firm, since
}

// outlives holds each sector behind a crash against what it may be: as it was firm; of those that were loose also as written, and, of one at most, half of each.
func outlives(t *testing.T, d *disk.Disk, firm [4]byte, since map[int]byte) {
	t.Helper()
	halves := 0
	for at, was := range firm {
		now := read(d, at)
		b, isLoose := since[at]
		switch {
		case now == string(sector(was)):
		case isLoose && now == string(sector(b)):
		case isLoose && now == string(torn(b, was)):
			halves++
		default:
			t.Errorf("behind a crash sector %d is %v, beside firm %d, loose %d (%v)", at, []byte(now), was, b, isLoose)
		}
	}
	if halves > 1 {
		t.Error("behind a crash there are", halves, "torn sectors")
	}
}

// P4.6: wherever the crash comes, whatever it keeps and tears, what was flushed outlives it; a second crash then changes nothing.
func TestWhatWasFlushedOutlivesCrashes(t *testing.T) {
	for fuse := range len(script()) + 2 {
		d, firm, since := run(t, fuse)
		for mask := range 16 {
			keeps := []bool{mask&1 > 0, mask&2 > 0, mask&4 > 0, mask&8 > 0}
			for tear := -1; tear < 5; tear++ {
				c := d.Clone()
				ok(t, "Crash", c.Crash(keeps[:4-mask%2], tear))
				outlives(t, c, firm, since)
				was := look(c)
				ok(t, "Crash once more", c.Crash(keeps, tear))
				same(t, "Crash once more", c, was)
			}
		}
	}
}

// P4.6: what is refused changes nothing, in all conditions of a disk; but that a change that a used-up fuse does not allow puts it out.
func TestWhatIsRefusedChangesNothing(t *testing.T) {
	for name, d := range disks(t) {
		was := look(d)
		for call, err := range map[string]api.Errno{
			"Write of no sector":   d.Write(4, sector(7)),
			"Write below 0":        d.Write(-1, sector(7)),
			"Write of 63 bytes":    d.Write(0, sector(7)[:63]),
			"Write of 65 bytes":    d.Write(0, append(sector(7), 7)),
			"Fuse below 0":         d.Fuse(-1),
			"Turn of no sector":    d.Turn(4, 0, 7),
			"Turn of no byte":      d.Turn(0, 64, 7),
			"Turn of a byte ahead": d.Turn(0, -1, 7),
			"Turn ahead of all":    d.Turn(-1, 0, 7),
		} {
			if err == api.OK {
				t.Errorf("%s of one that is %s is not refused", call, name)
			}
		}
		same(t, "what is refused, of one that is "+name, d, was)
		if !was.up || was.left > 0 {
			continue
		}
		is(t, "Write", d.Write(0, sector(7)), api.ErrBroken)
		is(t, "Flush", d.Flush(), api.ErrBroken)
		now := look(d)
		if now.up || now.ops != was.ops || !slices.Equal(now.loose, was.loose) || !slices.Equal(now.firm, was.firm) {
			t.Errorf("a change beyond the fuse, of one that is %s: %v, not %v", name, now, was)
		}
		whole := []bool{true, true, true, true}
		ok(t, "Crash", d.Crash(whole, -1))
		for at, b := range was.reads {
			if read(d, at) != b {
				t.Errorf("a change beyond the fuse, of one that is %s, changed sector %d", name, at)
			}
		}
	}
}
