package store_test

import (
	"bytes"
	"encoding/binary"
	"slices"
	"testing"

	"tandem/api"
	"tandem/disk"
	"tandem/store"
)

// said tells what a sector says, and whether it is just that of some block (with mark 0), or of some entry (with mark 1).
func said(b []byte, mark byte) (place, n int, data []byte, isRight bool) {
	number, at := binary.LittleEndian.Uint64(b), binary.LittleEndian.Uint16(b[8:])
	data = slices.Clone(b[10:42])
	isRight = at < 64 && number >= 1 && number <= most && bytes.Equal(b, sealed(number, at, data, mark))
	return int(at), int(number), data, isRight
}

// model is what an Open makes of sectors, as the document's words have it.
type model struct {
	sectors  [][]byte
	isMended bool // a block was written
	bad      []int
	number   int
	data     map[int][]byte // of the blocks that are not bad
}

func modelOf(sectors [][]byte, at, blocks int) model {
	m := model{sectors: slices.Clone(sectors), data: map[int][]byte{}}
	place, n, data, isEntry := said(sectors[at], 1)
	if isEntry {
		m.number = n
	}
	if isEntry && place < blocks {
		at := at + 1 + place
		if own, was, _, isRight := said(sectors[at], 0); !isRight || own != place || was < n {
			m.sectors[at], m.isMended = blockSector(place, n, data), true
		}
	}
	for place := range blocks {
		own, n, data, isRight := said(m.sectors[at+1+place], 0)
		if !isRight || own != place {
			m.bad = append(m.bad, place)
			continue
		}
		m.number = max(m.number, n)
		m.data[place] = data
	}
	return m
}

// opens opens a store, and holds all that is told of it, and what the disk has then, against the model.
func opens(t *testing.T, what string, d *disk.Disk, at, blocks int) *store.Store {
	t.Helper()
	m, ops := modelOf(whole(t, d), at, blocks), d.Ops()
	s := opened(t, d, at, blocks, m.bad...)
	areSectors(t, what, whole(t, d), m.sectors)
	changes := 0
	if m.isMended {
		changes = 2
		areSectors(t, what+", firm", firm(t, d), m.sectors)
	}
	if d.Ops() != ops+changes || !d.Up() {
		t.Errorf("%s: Open made %d changes, not %d; up: %v", what, d.Ops()-ops, changes, d.Up())
	}
	counts(t, s, m.number)
	for place := range blocks {
		if data, isRight := m.data[place]; isRight {
			has(t, s, place, data)
		} else {
			misses(t, what, s, place, api.ErrCorrupt)
		}
	}
	return s
}

// P9.2: where nothing was made all blocks are bad, rising, the number is 0, and nothing changes; what is put there is right, each block.
func TestOpenWhereNothingWasMade(t *testing.T) {
	for _, p := range spots() {
		d := made(t, p.sectors)
		var all []int
		for place := range p.blocks {
			all = append(all, place)
		}
		var s *store.Store
		stays(t, "Open", d, func() { s = opened(t, d, p.at, p.blocks, all...) })
		counts(t, s, 0)
		for place := p.blocks - 1; place >= 0; place-- {
			misses(t, "nothing made", s, place, api.ErrCorrupt)
			puts(t, s, place, filled(place))
			has(t, s, place, filled(place))
		}
		counts(t, s, p.blocks)
		s = opened(t, d, p.at, p.blocks)
		counts(t, s, p.blocks)
	}
}

// P9.2: an Open of what is whole changes nothing, however often; nor does one of bad blocks that no entry mends.
func TestOpenOfWhatIsWhole(t *testing.T) {
	for _, p := range spots() {
		d := laid(t, p.sectors, p.at, p.blocks)
		stays(t, "Open", d, func() { opened(t, d, p.at, p.blocks) })
		puts(t, opened(t, d, p.at, p.blocks), p.blocks-1, filled(1))
		stays(t, "Open", d, func() {
			for range 3 {
				s := opened(t, d, p.at, p.blocks)
				counts(t, s, 2)
				has(t, s, p.blocks-1, filled(1))
			}
		})
	}
	d := laid(t, 8, 1, 5)
	puts(t, opened(t, d, 1, 5), 4, filled(1))
	for _, at := range []int{2, 3, 5} {
		ok(t, "Turn", d.Turn(at, 63, 128))
	}
	stays(t, "Open", d, func() { opened(t, d, 1, 5, 0, 1, 3) })
}

// laidOut tells a disk with a store of three blocks, of the numbers 1, 5 and 1, from sector 1 on, whose journal's sector is another one.
func laidOut(t *testing.T, journal []byte) *disk.Disk {
	t.Helper()
	return written(t, [][]byte{garbage(1), journal, blockSector(0, 1, filled(10)), blockSector(1, 5, filled(11)), blockSector(2, 1, filled(12)), garbage(2)})
}

// P9.2: an entry of a block that has a lower number is written as the entry says, firmly, by two changes; one of a block that has the same number, or a greater one, is left, and so is one of a block that there is not; but the number is that of any entry, if that is the greatest one.
func TestOpenWithAnEntry(t *testing.T) {
	for _, n := range []int{1, 2, 3, 4, 5, 6, 7, 258, most - 1, most} {
		for place := range 64 {
			d := laidOut(t, entrySector(place, n, filled(place)))
			s := opens(t, "an entry", d, 1, 3)
			counts(t, s, max(n, 5))
			if place == 1 && n <= 5 {
				has(t, s, 1, filled(11))
			}
			if place == 1 && n > 5 {
				has(t, s, 1, filled(1))
			}
			if place >= 3 && d.Ops() != 7 {
				t.Errorf("an entry of block %d of 3: Open made %d changes", place, d.Ops()-7)
			}
			stays(t, "Open once more", d, func() { opens(t, "once more", d, 1, 3) })
		}
	}
}

// P9.2: an entry of a block that is bad is written, whatever its number is, and whatever is bad: it is not bad then.
func TestOpenWithAnEntryOfABadBlock(t *testing.T) {
	for _, b := range [][]byte{make([]byte, 64), garbage(3), blockSector(0, 9, filled(1)), blockSector(1, most+1, filled(1)), entrySector(1, 9, filled(1))} {
		for _, n := range []int{1, 4, 9, most} {
			d := laidOut(t, entrySector(1, n, filled(20)))
			ok(t, "Write", d.Write(3, b))
			ok(t, "Flush", d.Flush())
			s := opens(t, "an entry of a bad block", d, 1, 3)
			counts(t, s, n)
			has(t, s, 1, filled(20))
		}
	}
	for at := range 64 {
		for _, mask := range []byte{1, 128, 255} {
			d := laidOut(t, entrySector(1, 5, filled(20)))
			ok(t, "Turn", d.Turn(3, at, mask))
			s := opens(t, "an entry of a bad block", d, 1, 3)
			has(t, s, 1, filled(20))
		}
	}
}

// P9.2: a journal's sector that is not that of an entry mends nothing, and has no number: noughts, a block's sector, one of a block or a number that may not be, one with a bit turned.
func TestOpenWithoutAnEntry(t *testing.T) {
	none := [][]byte{
		make([]byte, 64), garbage(4), blockSector(0, 9, filled(1)),
		entrySector(64, 9, filled(1)), entrySector(256, 9, filled(1)), entrySector(0, 0, filled(1)), entrySector(0, most+1, filled(1)),
		sealed(9, 0, filled(1), 2),
	}
	for bit := range 8 * 64 {
		b := entrySector(0, 9, filled(1))
		b[bit/8] ^= 1 << (bit % 8)
		none = append(none, b)
	}
	for _, b := range none {
		d := laidOut(t, b)
		stays(t, "Open", d, func() { counts(t, opens(t, "no entry", d, 1, 3), 5) })
		ok(t, "Turn", d.Turn(3, 1, 1))
		stays(t, "Open", d, func() { counts(t, opens(t, "no entry", d, 1, 3), 1) })
	}
}

// P9.2: the number is the greatest one, wherever it stands: in any of the blocks that are right, or the journal; a bad block has none, nor one behind the store.
func TestNumber(t *testing.T) {
	for place := range 64 {
		l := [][]byte{entrySector(63, 7, filled(1))}
		for i := range 64 {
			l = append(l, blockSector(i, 1+i%8, filled(i)))
		}
		l[1+place] = blockSector(place, 1000+place, filled(place))
		d := written(t, l)
		counts(t, opens(t, "64 blocks", d, 0, 64), 1000+place)
		for _, blocks := range []int{1, place, place + 1} {
			want := 8
			switch {
			case blocks > place:
				want = 1000 + place
			case blocks < 8:
				want = 7
			}
			if blocks > 0 {
				counts(t, opens(t, "fewer blocks", d, 0, blocks), want)
			}
		}
		ok(t, "Turn", d.Turn(1+place, 40, 16))
		if place != 63 {
			counts(t, opened(t, d, 0, 64, place), 8)
		}
	}
}

// P9.2: a store is what it is opened as: with fewer blocks than were made, with more, or from another sector on.
func TestOpenOtherwiseThanMade(t *testing.T) {
	d := laid(t, 9, 1, 5)
	s := opened(t, d, 1, 5)
	for place := range 5 {
		puts(t, s, place, filled(place))
	}
	opens(t, "fewer", d, 1, 2)
	opens(t, "one", d, 1, 1)
	opens(t, "more", d, 1, 7)
	opens(t, "a sector ahead", d, 0, 5)
	opens(t, "a sector behind", d, 2, 5)
	has(t, opens(t, "as it was made", d, 1, 5), 4, filled(4))
}

// P9.2: an entry that is loose, or blocks that are, are there: the Open sees what was written last.
func TestOpenOfWhatIsLoose(t *testing.T) {
	d := laidOut(t, make([]byte, 64))
	ok(t, "Write", d.Write(4, blockSector(2, 8, filled(1))))
	stays(t, "Open", d, func() { counts(t, opens(t, "a loose block", d, 1, 3), 8) })
	ok(t, "Write", d.Write(1, entrySector(0, 9, filled(2))))
	s := opens(t, "a loose entry", d, 1, 3)
	has(t, s, 0, filled(2))
	counts(t, s, 9)
}

// P9.2: an Open that stops while it mends tells so, and tells no store; the block is loose, or untouched.
func TestOpenStopsAtEachChange(t *testing.T) {
	for changes := range 3 {
		d := laidOut(t, entrySector(2, 6, filled(1)))
		was := firm(t, d)
		ok(t, "Fuse", d.Fuse(changes))
		if changes == 2 {
			has(t, opens(t, "Open", d, 1, 3), 2, filled(1))
			continue
		}
		refused(t, "Open", d, 1, 3, api.ErrBroken)
		areSectors(t, "what is firm", firm(t, d), was)
		if changes == 1 {
			was[4] = blockSector(2, 6, filled(1))
		}
		areSectors(t, "what is written", whole(t, d), was)
		if d.Up() || d.Ops() != 7+changes {
			t.Errorf("behind an Open that stopped: up: %v, changes: %d", d.Up(), d.Ops()-7)
		}
	}
}

// P9.2: two that are opened of one place, one behind the other, have the same blocks.
func TestOpenedTwice(t *testing.T) {
	s, d := fresh(t, 3)
	puts(t, s, 1, filled(1))
	other := opened(t, d, 0, 3)
	counts(t, other, 2)
	puts(t, other, 1, filled(2))
	counts(t, other, 3)
	has(t, s, 1, filled(2))
	has(t, opened(t, d, 0, 3), 1, filled(2))
}

// sector tells a sector of some kind, for a place in a store.
func (c *chance) sector(place int) []byte {
	n := 1 + c.below(6)
	switch c.below(8) {
	case 0:
		return make([]byte, 64)
	case 1:
		return garbage(c.below(100))
	case 2:
		return blockSector(c.below(64), n, c.data())
	case 3:
		return entrySector(max(place, 0), n, c.data())
	case 4:
		b := blockSector(max(place, 0), n, c.data())
		b[c.below(64)] ^= byte(1 + c.below(255))
		return b
	}
	return blockSector(max(place, 0), n, c.data())
}

// P9.2: disks of sectors of all kinds, against the model; and behind a Put they are as the model has it, too.
func TestOpenOfAllKindsOfDisks(t *testing.T) {
	c := chance(9)
	mended, bad := 0, 0
	for range 3000 {
		at, blocks := c.below(3), 1+c.below(7)
		l := make([][]byte, at+blocks+1+c.below(3))
		for i := range l {
			l[i] = c.sector(i - at - 1)
		}
		if c.below(4) > 0 {
			l[at] = entrySector(c.below(blocks+2), 1+c.below(7), c.data())
		}
		m := modelOf(l, at, blocks)
		bad += len(m.bad)
		if m.isMended {
			mended++
		}
		d := written(t, l)
		s := opens(t, "a disk of some kind", d, at, blocks)
		place, data := c.below(blocks), c.data()
		puts(t, s, place, data)
		counts(t, s, m.number+1)
		m.sectors[at], m.sectors[at+1+place] = entrySector(place, m.number+1, data), blockSector(place, m.number+1, data)
		areSectors(t, "behind a Put", firm(t, d), m.sectors)
		stays(t, "Open", d, func() { has(t, opens(t, "behind a Put", d, at, blocks), place, data) })
		if t.Failed() {
			t.FailNow()
		}
	}
	if mended == 0 || bad == 0 {
		t.Error("of all disks so many were mended:", mended, "and so many blocks were bad:", bad)
	}
}
