package block_test

import (
	"bytes"
	"encoding/binary"
	"hash/crc32"
	"math"
	"slices"
	"testing"

	"tandem/api"
	"tandem/block"
)

const most = 1 << 40

// raw is what a sector says, so that each part of it may be wrong: the number, the block, the bytes, the noughts, the number once more.
type raw struct {
	n       uint64
	block   uint16
	data    []byte
	noughts [12]byte
	again   uint64
}

// right tells what the sector of a block, a write's number and bytes says.
func right(block, n int, data []byte) raw {
	return raw{n: uint64(n), block: uint16(block), data: data, again: uint64(n)}
}

// laid tells it as a sector with a checksum that is right, laid out by the library, so that it leans on none of what it is held against.
func (r raw) laid() []byte {
	b := binary.LittleEndian.AppendUint64(nil, r.n)
	b = binary.LittleEndian.AppendUint16(b, r.block)
	b = append(b, r.data...)
	b = append(b, r.noughts[:]...)
	b = append(b, binary.LittleEndian.AppendUint64(nil, r.again)[:6]...)
	return binary.LittleEndian.AppendUint32(b, crc32.ChecksumIEEE(b))
}

// filled tells 32 bytes that rise by one each, none of them nought; unlike seeds below 255 have unlike bytes everywhere.
func filled(seed int) []byte {
	b := make([]byte, 32)
	for i := range b {
		b[i] = byte(1 + (i+37*seed)%255)
	}
	return b
}

// datas tells bytes that a block may have: noughts, all 255, one that is none of them, at each place, and some that are all unlike.
func datas() [][]byte {
	l := [][]byte{make([]byte, 32), bytes.Repeat([]byte{1}, 32), bytes.Repeat([]byte{255}, 32), filled(0), filled(1)}
	for i := range 32 {
		b := make([]byte, 32)
		b[i] = 1
		l = append(l, b)
	}
	return l
}

// numbers tells those that a write may have: the least, the greatest, each bit alone, and rows of bits.
func numbers() []int {
	l := []int{1, 2, 3, 255, 256, 257, 258, 65535, 65536, most - 2, most - 1, most, 0x0102030405}
	for i := range 41 {
		l = append(l, 1<<i)
	}
	return l
}

// wrongNumbers tells numbers that no write has; among them those whose lowest bytes are those of one that may be.
func wrongNumbers() []int {
	return []int{0, -1, -2, -most, most + 1, most + 2, 2 * most, 1 << 48, 1<<48 + 1, math.MaxInt, math.MaxInt - 1, math.MinInt, math.MinInt + 1}
}

// wrongBlocks tells numbers that no block has; among them those whose lowest bytes are those of one that may be.
func wrongBlocks() []int {
	return []int{-1, -2, -64, 64, 65, 127, 128, 255, 256, 256 + 5, 32768, 65535, 65536, 65536 + 5, 1<<32 + 5, most, math.MaxInt, math.MinInt, math.MinInt + 5}
}

// reads and refuses hold what Read answers against what is asked for.
func reads(t *testing.T, b []byte, of, n int, data []byte) {
	t.Helper()
	if gotN, got, err := block.Read(b, of); gotN != n || !bytes.Equal(got, data) || err != api.OK {
		t.Errorf("Read(%v, %d) = %d, %v, %v, not %d, %v", b, of, gotN, got, err, n, data)
	}
}

func refuses(t *testing.T, what string, b []byte, of int, want api.Errno) {
	t.Helper()
	if n, data, err := block.Read(b, of); n != 0 || len(data) != 0 || err != want {
		t.Errorf("%s: Read(%v, %d) = %d, %v, %v, not 0, none, %v", what, b, of, n, data, err, want)
	}
}

// isNone tells of a sector, whatever block is asked for, that it is none.
func isNone(t *testing.T, what string, b []byte) {
	t.Helper()
	for of := range 64 {
		refuses(t, what, b, of, api.ErrCorrupt)
	}
	for _, of := range wrongBlocks() {
		refuses(t, what, b, of, api.ErrCorrupt)
	}
}

// refusesBytes holds what Bytes answers against the error that is asked for.
func refusesBytes(t *testing.T, of, n int, data []byte, want api.Errno) {
	t.Helper()
	if got, err := block.Bytes(of, n, data); len(got) != 0 || err != want {
		t.Errorf("Bytes(%d, %d, %v) = %v, %v, not none, %v", of, n, data, got, err, want)
	}
}

// The chapter's examples, in their order.
func TestExamples(t *testing.T) {
	ones := bytes.Repeat([]byte{1}, 32)
	b, err := block.Bytes(5, 7, ones)
	if err != api.OK {
		t.Errorf("Bytes(5, 7, 32 bytes 1) = %v, %v", b, err)
	}
	reads(t, b, 5, 7, ones)
	refuses(t, "another block", b, 6, api.ErrCorrupt)
	refuses(t, "noughts", make([]byte, 64), 0, api.ErrCorrupt)
	refuses(t, "none", nil, 0, api.ErrBytes)
	refusesBytes(t, 64, 1, ones, api.ErrRange)
	refusesBytes(t, 0, 0, ones, api.ErrRange)
	refusesBytes(t, 0, 1, ones[:31], api.ErrArg)
}

// P7.1: a sector, byte by byte, as the document's words lay it out.
func TestBytesAtTheirPlaces(t *testing.T) {
	data := filled(3)
	want := make([]byte, 64)
	copy(want, []byte{5, 4, 3, 2, 1, 0, 0, 0, 37, 0})
	copy(want[10:], data)
	copy(want[54:], []byte{5, 4, 3, 2, 1, 0})
	binary.LittleEndian.PutUint32(want[60:], crc32.ChecksumIEEE(want[:60]))
	if got, err := block.Bytes(37, 0x0102030405, data); !bytes.Equal(got, want) || err != api.OK {
		t.Errorf("Bytes(37, 0x0102030405, %v) = %v, %v, not %v", data, got, err, want)
	}
	reads(t, want, 37, 0x0102030405, data)
}

// P7.1, P7.2: all blocks, numbers from 1 to 2^40, and bytes of all kinds: the sector is the document's, and is read as it was.
func TestBytesAndRead(t *testing.T) {
	for of := range 64 {
		for _, n := range numbers() {
			for _, data := range datas() {
				want := right(of, n, data).laid()
				got, err := block.Bytes(of, n, data)
				if !bytes.Equal(got, want) || err != api.OK {
					t.Errorf("Bytes(%d, %d, %v) = %v, %v, not %v", of, n, data, got, err, want)
				}
				reads(t, want, of, n, data)
			}
		}
	}
}

// P7.1: a block, or a number, that may not be is told as that, whatever the bytes are; else bytes that are not 32.
func TestWrongBytes(t *testing.T) {
	for _, size := range []int{0, 1, 16, 31, 32, 33, 64, 32 + 256, 32 + 65536} {
		data := make([]byte, size)
		for _, of := range wrongBlocks() {
			for _, n := range append(numbers(), wrongNumbers()...) {
				refusesBytes(t, of, n, data, api.ErrRange)
			}
		}
		for of := range 64 {
			for _, n := range wrongNumbers() {
				refusesBytes(t, of, n, data, api.ErrRange)
			}
			for _, n := range numbers() {
				if size != 32 {
					refusesBytes(t, of, n, data, api.ErrArg)
				}
			}
		}
	}
	refusesBytes(t, 0, 1, nil, api.ErrArg)
	refusesBytes(t, 64, 1, nil, api.ErrRange)
	refusesBytes(t, 0, 0, nil, api.ErrRange)
}

// P7.2: what has not 64 bytes is told as that, whatever block is asked for: noughts, a sector that is cut, or one with more behind it.
func TestReadOfWrongSizes(t *testing.T) {
	whole := append(right(5, 7, filled(1)).laid(), make([]byte, 65536)...)
	for _, of := range append([]int{0, 5, 6, 63}, wrongBlocks()...) {
		refuses(t, "nil", nil, of, api.ErrBytes)
		for _, size := range []int{0, 1, 8, 10, 32, 42, 60, 63, 65, 66, 128, 64 + 256, 65536} {
			refuses(t, "noughts", make([]byte, size), of, api.ErrBytes)
			refuses(t, "a sector, cut or with more", whole[:size], of, api.ErrBytes)
		}
	}
}

// P7.2: 64 noughts are no block's sector, nor are they with any bit turned, nor with their checksum; nor are other bytes all alike.
func TestReadOfNoughts(t *testing.T) {
	isNone(t, "noughts", make([]byte, 64))
	for bit := range 8 * 64 {
		b := make([]byte, 64)
		b[bit/8] = 1 << (bit % 8)
		isNone(t, "noughts with a bit turned", b)
	}
	isNone(t, "noughts with their checksum", right(0, 0, make([]byte, 32)).laid())
	for x := range 255 {
		isNone(t, "bytes alike", bytes.Repeat([]byte{byte(x + 1)}, 64))
	}
}

// P7.2: the sector of a block is that of no other one, be it one that may be or not.
func TestReadAsAnotherBlock(t *testing.T) {
	for own := range 64 {
		b := right(own, 7, filled(own)).laid()
		for of := range 64 {
			if of == own {
				reads(t, b, of, 7, filled(own))
			} else {
				refuses(t, "another block", b, of, api.ErrCorrupt)
			}
		}
		for _, of := range append(wrongBlocks(), own+64, own-64, own+256, own+65536, own-65536, own+1<<32, -own-1) {
			refuses(t, "a block that may not be", b, of, api.ErrCorrupt)
		}
	}
}

// P7.2: a sector of which one byte is changed is none, whichever byte, whatever it is then.
func TestReadOfOneByteChanged(t *testing.T) {
	for _, r := range []raw{right(0, 1, make([]byte, 32)), right(5, 258, filled(1)), right(63, most, bytes.Repeat([]byte{255}, 32))} {
		for at := range 64 {
			for by := range 255 {
				b := r.laid()
				b[at] += byte(by + 1)
				refuses(t, "a byte changed", b, int(r.block), api.ErrCorrupt)
			}
		}
	}
}

// P7.2: a byte of the 12 noughts that is none is found at each place, though the checksum is right.
func TestReadOfNoughtsThatAreNone(t *testing.T) {
	for at := range 12 {
		for x := range 255 {
			r := right(5, 7, filled(1))
			r.noughts[at] = byte(x + 1)
			refuses(t, "no nought", r.laid(), 5, api.ErrCorrupt)
		}
	}
	for _, x := range []byte{1, 128, 255} {
		r := right(5, 7, filled(1))
		for at := range r.noughts {
			r.noughts[at] = x
		}
		isNone(t, "no noughts at all", r.laid())
	}
}

// P7.2: two numbers that are unlike are found, whichever of their bits, though the checksum is right.
func TestReadOfTwoNumbers(t *testing.T) {
	for _, n := range numbers() {
		for bit := range 64 {
			r := right(5, n, filled(1))
			r.n ^= 1 << bit
			refuses(t, "the first number is another one", r.laid(), 5, api.ErrCorrupt)
		}
		for bit := range 48 {
			r := right(5, n, filled(1))
			r.again ^= 1 << bit
			refuses(t, "the second number is another one", r.laid(), 5, api.ErrCorrupt)
		}
		for _, other := range numbers() {
			if other != n {
				r := right(5, n, filled(1))
				r.again = uint64(other)
				isNone(t, "two numbers", r.laid())
			}
		}
	}
}

// P7.2: a number that no write has is found, though it stands there twice, as far as it goes, and the checksum is right.
func TestReadOfWrongNumbers(t *testing.T) {
	for _, n := range wrongNumbers() {
		for _, of := range []int{0, 5, 63} {
			isNone(t, "a number that may not be", right(of, n, filled(1)).laid())
		}
	}
}

// P7.2: a block's number that may not be is found, though the checksum is right; whatever block is asked for, that one too.
func TestReadOfWrongBlocks(t *testing.T) {
	for own := 64; own < 65536; own++ {
		b := right(own, 7, filled(1)).laid()
		for _, of := range []int{own, own % 64, own % 256, own >> 8, own - 65536, own + 65536, 0, 63} {
			refuses(t, "a block that may not be", b, of, api.ErrCorrupt)
		}
	}
	for _, own := range []int{64, 65, 127, 128, 256, 256 + 5, 1 << 15, 65535} {
		isNone(t, "a block that may not be", right(own, 7, filled(1)).laid())
	}
}

// half tells the first half of one sector, and the second one of another.
func half(a, b []byte) []byte { return slices.Concat(a[:32], b[32:]) }

// P7.3: half of one sector, and half of another one with an unlike number, are none, in both orders, of one block or of two.
func TestHalves(t *testing.T) {
	for _, blocks := range [][2]int{{0, 0}, {5, 5}, {63, 63}, {5, 6}, {0, 63}} {
		for _, n := range numbers() {
			for _, m := range numbers() {
				if n == m {
					continue
				}
				for _, data := range [][2][]byte{{filled(1), filled(1)}, {filled(1), filled(2)}, {make([]byte, 32), filled(1)}} {
					a := right(blocks[0], n, data[0]).laid()
					b := right(blocks[1], m, data[1]).laid()
					for _, of := range blocks {
						refuses(t, "old behind new", half(a, b), of, api.ErrCorrupt)
						refuses(t, "new behind old", half(b, a), of, api.ErrCorrupt)
					}
				}
			}
		}
	}
}

// P7.3: of two sectors of one number the halves are none, where they are unlike in both; where one half is alike, what they make is one of the two, and is read as that.
func TestHalvesOfNumbersAlike(t *testing.T) {
	for _, n := range numbers() {
		a := right(5, n, filled(1)).laid()
		reads(t, half(a, a), 5, n, filled(1))
		first := slices.Concat(filled(2)[:1], filled(1)[1:])
		for _, b := range [][]byte{right(5, n, first).laid(), right(5, n, filled(2)).laid(), right(6, n, filled(1)).laid()} {
			isNone(t, "old behind new", half(a, b))
			isNone(t, "new behind old", half(b, a))
		}
		last := slices.Concat(filled(1)[:31], filled(2)[31:])
		b := right(5, n, last).laid()
		reads(t, half(a, b), 5, n, last)
		reads(t, half(b, a), 5, n, filled(1))
	}
}

// P7.3: a sector of numbers alike whose halves are of two, with a checksum made for the first of them, is none: numbers that are alike alone do not make it right.
func TestHalvesWithoutAChecksumOfTheirOwn(t *testing.T) {
	a := right(5, 7, filled(1)).laid()
	b := right(5, 7, filled(2)).laid()
	refuses(t, "the checksum of the first", slices.Concat(a[:32], b[32:60], a[60:]), 5, api.ErrCorrupt)
	refuses(t, "the checksum of the second", slices.Concat(b[:32], a[32:60], b[60:]), 5, api.ErrCorrupt)
}

// chance tells numbers in a row, the same each time, below a bound.
type chance uint64

func (c *chance) below(n int) int {
	*c = *c*6364136223846793005 + 1442695040888963407
	return int(uint64(*c) >> 33 % uint64(n))
}

// bytes tells as many bytes.
func (c *chance) bytes(size int) []byte {
	b := make([]byte, size)
	for i := range b {
		b[i] = byte(c.below(256))
	}
	return b
}

// P7.3 (P2): blocks, numbers and bytes of all kinds are read as they were; what is read, of a sector in which parts were changed and the checksum made anew, is written as it was.
func TestThereAndBack(t *testing.T) {
	c := chance(7)
	for range 20000 {
		of, n, data := c.below(64), 1+c.below(1<<31)<<c.below(10), c.bytes(32)
		b, err := block.Bytes(of, n, data)
		if err != api.OK {
			t.Fatalf("Bytes(%d, %d, %v) = %v", of, n, data, err)
		}
		reads(t, b, of, n, data)
		b[c.below(60)] ^= byte(c.below(256))
		binary.LittleEndian.PutUint32(b[60:], crc32.ChecksumIEEE(b[:60]))
		n, data, err = block.Read(b, of)
		if err != api.OK {
			refuses(t, "parts changed", b, of, api.ErrCorrupt)
			continue
		}
		if again, err := block.Bytes(of, n, data); !bytes.Equal(again, b) || err != api.OK {
			t.Errorf("read of %v as %d, %d, %v, written as %v, %v", b, of, n, data, again, err)
		}
	}
}

// Rule 4: what is handed in is not changed, nor is its spare room; what is told shares none of it, and none of what was told ahead.
func TestNewMemory(t *testing.T) {
	room := append(filled(1), 9, 9, 9, 9)
	data := room[:32]
	b, _ := block.Bytes(5, 7, data)
	twin, _ := block.Bytes(5, 7, data)
	if !bytes.Equal(room, append(filled(1), 9, 9, 9, 9)) {
		t.Error("Bytes changed what it was handed:", room)
	}
	want := slices.Clone(b)
	clear(data)
	clear(twin[:cap(twin)])
	if !bytes.Equal(b, want) {
		t.Error("a sector changed with something else:", b)
	}
	_ = append(b[:60], 8, 8, 8, 8, 8)
	if other, _ := block.Bytes(5, 7, filled(1)); !bytes.Equal(other, want) {
		t.Error("a sector differs behind a change of another one:", other)
	}

	room = append(slices.Clone(want), 9, 9, 9, 9)
	_, data, _ = block.Read(room[:64], 5)
	_, twin, _ = block.Read(room[:64], 5)
	if !bytes.Equal(room, append(slices.Clone(want), 9, 9, 9, 9)) {
		t.Error("Read changed what it was handed:", room)
	}
	data = append(data, 8, 8, 8, 8)
	clear(data[:cap(data)])
	if !bytes.Equal(room, append(slices.Clone(want), 9, 9, 9, 9)) || !bytes.Equal(twin, filled(1)) {
		t.Error("the bytes that were read are another one's too:", room, twin)
	}
}
