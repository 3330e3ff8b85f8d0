package journal_test

import (
	"bytes"
	"encoding/binary"
	"hash/crc32"
	"math"
	"slices"
	"testing"

	"tandem/api"
	"tandem/block"
	"tandem/journal"
)

const most = 1 << 40

// raw is what a sector says, so that each part of it may be wrong: the number, the block, the bytes, the byte 1, the noughts, the number once more.
type raw struct {
	n       uint64
	block   uint16
	data    []byte
	mark    byte
	noughts [11]byte
	again   uint64
}

// right tells what the sector of an entry says.
func right(e api.Entry) raw {
	return raw{n: uint64(e.N), block: uint16(e.Block), data: e.Data, mark: 1, again: uint64(e.N)}
}

// laid tells it as a sector with a checksum that is right, laid out by the library, so that it leans on none of what it is held against.
func (r raw) laid() []byte {
	b := binary.LittleEndian.AppendUint64(nil, r.n)
	b = binary.LittleEndian.AppendUint16(b, r.block)
	b = append(b, r.data...)
	b = append(b, r.mark)
	b = append(b, r.noughts[:]...)
	b = append(b, binary.LittleEndian.AppendUint64(nil, r.again)[:6]...)
	return binary.LittleEndian.AppendUint32(b, crc32.ChecksumIEEE(b))
}

// filled tells 32 bytes that rise by one each, none of them nought; unlike seeds below 255 have unlike bytes everywhere.
func filled(seed int) []byte {
	b := make([]byte, 32)
	for i := range b {
		b[i] = byte(1 + (i+37*seed)%255)
	}
	return b
}

// datas tells bytes that an entry may have: noughts, all 255, one that is none of them, at each place, and some that are all unlike.
func datas() [][]byte {
	l := [][]byte{make([]byte, 32), bytes.Repeat([]byte{1}, 32), bytes.Repeat([]byte{255}, 32), filled(0), filled(1)}
	for i := range 32 {
		b := make([]byte, 32)
		b[i] = 1
		l = append(l, b)
	}
	return l
}

// numbers tells those that an entry may have: the least, the greatest, each bit alone, and rows of bits.
func numbers() []int {
	l := []int{1, 2, 3, 255, 256, 257, 258, 65535, 65536, most - 2, most - 1, most, 0x0102030405}
	for i := range 41 {
		l = append(l, 1<<i)
	}
	return l
}

// wrongNumbers tells numbers that no entry has; among them those whose lowest bytes are those of one that may be.
func wrongNumbers() []int {
	return []int{0, -1, -2, -most, most + 1, most + 2, 2 * most, 1 << 48, 1<<48 + 1, math.MaxInt, math.MaxInt - 1, math.MinInt, math.MinInt + 1}
}

// wrongBlocks tells numbers that no block has; among them those whose lowest bytes are those of one that may be.
func wrongBlocks() []int {
	return []int{-1, -2, -64, 64, 65, 127, 128, 255, 256, 256 + 5, 32768, 65535, 65536, 65536 + 5, 1<<32 + 5, most, math.MaxInt, math.MinInt, math.MinInt + 5}
}

// wrongs tells entries that may not be, each for one reason, or for several.
func wrongs() []api.Entry {
	l := []api.Entry{{}, {Block: 5, N: 7}, {Block: 64, N: 0}, {Block: -1, N: most + 1, Data: filled(1)[:31]}}
	for _, at := range wrongBlocks() {
		l = append(l, api.Entry{Block: at, N: 7, Data: filled(1)})
	}
	for _, n := range wrongNumbers() {
		l = append(l, api.Entry{Block: 5, N: n, Data: filled(1)})
	}
	for _, size := range []int{0, 1, 16, 31, 33, 63, 64, 32 + 256, 32 + 65536} {
		l = append(l, api.Entry{Block: 5, N: 7, Data: make([]byte, size)})
	}
	return l
}

// edges tells entries at the bounds of what may be, and one between.
func edges() []api.Entry {
	var l []api.Entry
	for _, at := range []int{0, 5, 63} {
		for _, n := range []int{1, 0x0102030405, most} {
			for _, data := range [][]byte{make([]byte, 32), filled(1), bytes.Repeat([]byte{255}, 32)} {
				l = append(l, api.Entry{Block: at, N: n, Data: data})
			}
		}
	}
	return l
}

// is and ok hold an error against the one that is asked for.
func is(t *testing.T, call string, got, want api.Errno) {
	t.Helper()
	if got != want {
		t.Errorf("%s: %v, not %v", call, got, want)
	}
}

func ok(t *testing.T, call string, got api.Errno) {
	t.Helper()
	is(t, call, got, api.OK)
}

// alike tells whether two entries are the same.
func alike(a, b api.Entry) bool {
	return a.Block == b.Block && a.N == b.N && bytes.Equal(a.Data, b.Data)
}

// isZero tells whether an entry is the zero value; a list nil or empty.
func isZero(e api.Entry) bool { return e.Block == 0 && e.N == 0 && len(e.Data) == 0 }

// reads and refuses hold what Read answers against what is asked for.
func reads(t *testing.T, b []byte, want api.Entry) {
	t.Helper()
	if got, err := journal.Read(b); !alike(got, want) || err != api.OK {
		t.Errorf("Read(%v) = %v, %v, not %v", b, got, err, want)
	}
}

func refuses(t *testing.T, what string, b []byte, want api.Errno) {
	t.Helper()
	if got, err := journal.Read(b); !isZero(got) || err != want {
		t.Errorf("%s: Read(%v) = %v, %v, not zero, %v", what, b, got, err, want)
	}
}

// P8.1: a sector, byte by byte, as the document's words lay it out.
func TestBytesAtTheirPlaces(t *testing.T) {
	e := api.Entry{Block: 37, N: 0x0102030405, Data: filled(3)}
	want := make([]byte, 64)
	copy(want, []byte{5, 4, 3, 2, 1, 0, 0, 0, 37, 0})
	copy(want[10:], e.Data)
	want[42] = 1
	copy(want[54:], []byte{5, 4, 3, 2, 1, 0})
	binary.LittleEndian.PutUint32(want[60:], crc32.ChecksumIEEE(want[:60]))
	if got, err := journal.Bytes(e); !bytes.Equal(got, want) || err != api.OK {
		t.Errorf("Bytes(%v) = %v, %v, not %v", e, got, err, want)
	}
	reads(t, want, e)
}

// P8.1: all blocks, numbers from 1 to 2^40, and bytes of all kinds: the sector is the document's, and is read as it was.
func TestBytesAndRead(t *testing.T) {
	for at := range 64 {
		for _, n := range numbers() {
			for _, data := range datas() {
				e := api.Entry{Block: at, N: n, Data: data}
				want := right(e).laid()
				got, err := journal.Bytes(e)
				if !bytes.Equal(got, want) || err != api.OK {
					t.Errorf("Bytes(%v) = %v, %v, not %v", e, got, err, want)
				}
				reads(t, want, e)
			}
		}
	}
}

// P8.1: an entry that may not be has no sector.
func TestBytesOfEntriesThatMayNotBe(t *testing.T) {
	for _, e := range wrongs() {
		if got, err := journal.Bytes(e); len(got) != 0 || err != api.ErrArg {
			t.Errorf("Bytes(%v) = %v, %v, not none, %v", e, got, err, api.ErrArg)
		}
	}
}

// P8.1: what has not 64 bytes is told as that: noughts, a sector that is cut, or one with more ahead of it or behind.
func TestReadOfWrongSizes(t *testing.T) {
	refuses(t, "nil", nil, api.ErrBytes)
	whole := append(right(api.Entry{Block: 5, N: 7, Data: filled(1)}).laid(), make([]byte, 65536)...)
	for _, size := range []int{0, 1, 8, 10, 32, 42, 60, 63, 65, 66, 128, 64 + 256, 65536} {
		refuses(t, "noughts", make([]byte, size), api.ErrBytes)
		refuses(t, "a sector, cut or with more", whole[:size], api.ErrBytes)
	}
	refuses(t, "a sector without its first byte", whole[1:64], api.ErrBytes)
	refuses(t, "a sector behind a nought", append([]byte{0}, whole[:64]...), api.ErrBytes)
}

// P8.1: 64 noughts are no sector, nor are they with any bit turned, nor with their checksum; nor are other bytes all alike.
func TestReadOfNoughts(t *testing.T) {
	refuses(t, "noughts", make([]byte, 64), api.ErrCorrupt)
	for bit := range 8 * 64 {
		b := make([]byte, 64)
		b[bit/8] = 1 << (bit % 8)
		refuses(t, "noughts with a bit turned", b, api.ErrCorrupt)
	}
	refuses(t, "noughts with their checksum", raw{data: make([]byte, 32)}.laid(), api.ErrCorrupt)
	refuses(t, "noughts but for the byte 1", raw{data: make([]byte, 32), mark: 1}.laid(), api.ErrCorrupt)
	for x := range 255 {
		refuses(t, "bytes alike", bytes.Repeat([]byte{byte(x + 1)}, 64), api.ErrCorrupt)
	}
}

// P8.1: the sector of a block, as layer 7 has it, is that of no entry, whatever block, number and bytes; nor is an entry's sector that of a block.
func TestReadOfABlocksSector(t *testing.T) {
	for at := range 64 {
		for _, n := range numbers() {
			b, err := block.Bytes(at, n, filled(at))
			ok(t, "block.Bytes", err)
			refuses(t, "a block's sector", b, api.ErrCorrupt)
			b[42] = 1
			refuses(t, "a block's sector with the byte 1", b, api.ErrCorrupt)
			b, err = journal.Bytes(api.Entry{Block: at, N: n, Data: filled(at)})
			ok(t, "Bytes", err)
			_, _, err = block.Read(b, at)
			is(t, "block.Read of an entry's sector", err, api.ErrCorrupt)
		}
	}
}

// P8.1: a sector of which one byte is changed is none, whichever byte, whatever it is then.
func TestReadOfOneByteChanged(t *testing.T) {
	for _, e := range edges() {
		for at := range 64 {
			for by := range 255 {
				b := right(e).laid()
				b[at] += byte(by + 1)
				refuses(t, "a byte changed", b, api.ErrCorrupt)
			}
		}
	}
}

// P8.1: the byte 1 and the 11 noughts are looked at, each one, though the checksum is right.
func TestReadOfOtherBytesBehindTheData(t *testing.T) {
	e := api.Entry{Block: 5, N: 7, Data: filled(1)}
	for x := range 256 {
		if x != 1 {
			r := right(e)
			r.mark = byte(x)
			refuses(t, "another byte than 1", r.laid(), api.ErrCorrupt)
		}
		for at := range 11 {
			if x != 0 {
				r := right(e)
				r.noughts[at] = byte(x)
				refuses(t, "no nought", r.laid(), api.ErrCorrupt)
			}
		}
	}
	r := right(e)
	r.mark, r.noughts[0] = 0, 1
	refuses(t, "the byte 1 a place behind its own", r.laid(), api.ErrCorrupt)
	r.mark, r.noughts = 1, [11]byte{1, 1, 1, 1, 1, 1, 1, 1, 1, 1, 1}
	refuses(t, "no noughts at all", r.laid(), api.ErrCorrupt)
}

// P8.1: two numbers that are unlike are found, whichever of their bits, though the checksum is right.
func TestReadOfTwoNumbers(t *testing.T) {
	for _, n := range numbers() {
		e := api.Entry{Block: 5, N: n, Data: filled(1)}
		for bit := range 64 {
			r := right(e)
			r.n ^= 1 << bit
			refuses(t, "the first number is another one", r.laid(), api.ErrCorrupt)
		}
		for bit := range 48 {
			r := right(e)
			r.again ^= 1 << bit
			refuses(t, "the second number is another one", r.laid(), api.ErrCorrupt)
		}
		for _, other := range append(numbers(), wrongNumbers()...) {
			if other != n {
				r := right(e)
				r.again = uint64(other)
				if r.again<<16 != r.n<<16 {
					refuses(t, "two numbers", r.laid(), api.ErrCorrupt)
				}
			}
		}
	}
}

// P8.1: a number that no entry has is found, though it stands there twice, as far as it goes, and the checksum is right.
func TestReadOfWrongNumbers(t *testing.T) {
	for _, n := range wrongNumbers() {
		for _, at := range []int{0, 5, 63} {
			refuses(t, "a number that may not be", right(api.Entry{Block: at, N: n, Data: filled(1)}).laid(), api.ErrCorrupt)
		}
	}
}

// P8.1: a block that may not be is found, though the checksum is right.
func TestReadOfWrongBlocks(t *testing.T) {
	for at := 64; at < 65536; at++ {
		refuses(t, "a block that may not be", right(api.Entry{Block: at, N: 7, Data: filled(1)}).laid(), api.ErrCorrupt)
	}
}

// P8.3: half of one entry's sector, and half of that of another one with an unlike number, are none, in both orders.
func TestHalves(t *testing.T) {
	for _, n := range numbers() {
		for _, m := range numbers() {
			if n == m {
				continue
			}
			for _, seeds := range [][2]int{{1, 1}, {1, 2}} {
				a := right(api.Entry{Block: 5, N: n, Data: filled(seeds[0])}).laid()
				b := right(api.Entry{Block: 5 + n%2, N: m, Data: filled(seeds[1])}).laid()
				refuses(t, "old behind new", slices.Concat(b[:32], a[32:]), api.ErrCorrupt)
				refuses(t, "new behind old", slices.Concat(a[:32], b[32:]), api.ErrCorrupt)
			}
		}
	}
}

// chance tells numbers without a pattern, the same ones in every run.
type chance uint64

func (c *chance) below(n int) int {
	*c = *c*6364136223846793005 + 1442695040888963407
	return int(uint64(*c) >> 33 % uint64(n))
}

// entry tells one that may be.
func (c *chance) entry() api.Entry {
	e := api.Entry{Block: c.below(64), N: 1 + c.below(1<<31)<<c.below(10), Data: make([]byte, 32)}
	for i := range e.Data {
		e.Data[i] = byte(c.below(256))
	}
	return e
}

// P8.3 (P2): entries of all kinds are read as they were; what is read, of a sector in which a byte was changed and the checksum made anew, is written as it was.
func TestThereAndBack(t *testing.T) {
	c := chance(8)
	changed := 0
	for range 20000 {
		e := c.entry()
		b, err := journal.Bytes(e)
		ok(t, "Bytes", err)
		reads(t, b, e)
		b[c.below(60)] ^= byte(c.below(256))
		binary.LittleEndian.PutUint32(b[60:], crc32.ChecksumIEEE(b[:60]))
		e, err = journal.Read(b)
		if err != api.OK {
			refuses(t, "a byte changed", b, api.ErrCorrupt)
			continue
		}
		changed++
		if again, err := journal.Bytes(e); !bytes.Equal(again, b) || err != api.OK {
			t.Errorf("read of %v as %v, written as %v, %v", b, e, again, err)
		}
	}
	if changed == 0 {
		t.Error("no sector that was changed was read")
	}
}

// fill lays a byte over a slice and its spare room.
func fill(b []byte, c byte) {
	b = b[:cap(b)]
	for i := range b {
		b[i] = c
	}
}

// Rule 4: Bytes changes nothing of what it is handed, nor reads its spare room; what it tells shares none of it, and none of what was told ahead.
func TestBytesOfWhatIsHandedIn(t *testing.T) {
	room := append(filled(1), 9, 9, 9, 9)
	e := api.Entry{Block: 5, N: 7, Data: room[:32]}
	want := right(api.Entry{Block: 5, N: 7, Data: filled(1)}).laid()
	b, err := journal.Bytes(e)
	ok(t, "Bytes", err)
	twin, err := journal.Bytes(e)
	ok(t, "Bytes", err)
	if !bytes.Equal(room, append(filled(1), 9, 9, 9, 9)) {
		t.Error("Bytes changed what it was handed:", room)
	}
	fill(room, 3)
	fill(twin, 4)
	if !bytes.Equal(b, want) {
		t.Error("a sector changed with something else:", b)
	}
	fill(b, 5)
	if other, _ := journal.Bytes(api.Entry{Block: 5, N: 7, Data: filled(1)}); !bytes.Equal(other, want) {
		t.Error("a sector differs behind a change of another one:", other)
	}
	short := append(filled(1)[:31:31], 9)
	if got, err := journal.Bytes(api.Entry{Block: 5, N: 7, Data: short[:31]}); len(got) != 0 || err != api.ErrArg {
		t.Errorf("Bytes of 31 bytes with spare room = %v, %v", got, err)
	}
}

// Rule 4: Read changes nothing of what it is handed, nor reads its spare room; what it tells shares none of it, and none of what was told ahead.
func TestReadOfWhatIsHandedIn(t *testing.T) {
	e := api.Entry{Block: 5, N: 7, Data: filled(1)}
	want := append(right(e).laid(), 9, 9, 9, 9)
	room := slices.Clone(want)
	got, err := journal.Read(room[:64])
	ok(t, "Read", err)
	twin, err := journal.Read(room[:64])
	ok(t, "Read", err)
	fill(twin.Data, 4)
	if !bytes.Equal(room, want) || !alike(got, e) {
		t.Error("what was read is another one's too:", room, got)
	}
	if cap(got.Data) != 32 {
		t.Error("behind what was read there is room, so many bytes in all:", cap(got.Data))
	}
	_ = append(got.Data, 8, 8, 8, 8)
	fill(room, 3)
	if !alike(got, e) {
		t.Error("what was read changed with what was handed in:", got)
	}
	refuses(t, "63 bytes with spare room", slices.Clone(want)[:63], api.ErrBytes)
}
