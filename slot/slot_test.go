package slot_test

import (
	"bytes"
	"encoding/binary"
	"hash/crc32"
	"math"
	"slices"
	"testing"

	"tandem/api"
	"tandem/slot"
)

const most = 1 << 40

// raw is what a sector says, so that each part of it may be wrong: the number, how many bytes the record has, what stands from the record on, the number once more.
type raw struct {
	n     uint64
	size  uint16
	body  []byte
	again uint64
}

// right tells what the sector of a record and a number says.
func right(n int, rec []byte) raw {
	return raw{uint64(n), uint16(len(rec)), rec, uint64(n)}
}

// laid tells it as a sector with a checksum that is right, laid out by the library, so that it leans on none of what it is held against.
func (r raw) laid() []byte {
	b := binary.LittleEndian.AppendUint64(nil, r.n)
	b = binary.LittleEndian.AppendUint16(b, r.size)
	b = append(b, r.body...)
	b = append(b, make([]byte, 54-len(b))...)
	b = append(b, binary.LittleEndian.AppendUint64(nil, r.again)[:6]...)
	return binary.LittleEndian.AppendUint32(b, crc32.ChecksumIEEE(b))
}

// record tells a record of so many bytes, none of them nought; unlike seeds below 255 have unlike bytes everywhere.
func record(size int, seed byte) []byte {
	b := make([]byte, size)
	for i := range b {
		b[i] = byte(1 + (i+37*int(seed))%255)
	}
	return b
}

// records tells one of each length, and some of noughts and of bytes 255.
func records() [][]byte {
	l := [][]byte{nil, {}, {0}, make([]byte, 39), make([]byte, 40), bytes.Repeat([]byte{255}, 40)}
	for size := range 41 {
		l = append(l, record(size, 3))
	}
	return l
}

// numbers tells those that a sector may have: the least, the greatest, each bit alone, and rows of bits.
func numbers() []int {
	l := []int{1, 2, 3, 255, 256, 257, 258, 65535, 65536, most - 2, most - 1, most, 0x0102030405}
	for i := range 41 {
		l = append(l, 1<<i)
	}
	return l
}

// wrongNumbers tells numbers that no sector has; among them those whose lowest bits are one.
func wrongNumbers() []int {
	return []int{0, -1, -2, -most, most + 1, most + 2, 2 * most, 1<<48 + 1, math.MaxInt, math.MinInt, math.MinInt + 1}
}

// is holds what a call answered against what is asked for; ok against OK.
func is(t *testing.T, call string, got, want api.Errno) {
	t.Helper()
	if got != want {
		t.Errorf("%s = %v, not %v", call, got, want)
	}
}

func ok(t *testing.T, call string, got api.Errno) {
	t.Helper()
	is(t, call, got, api.OK)
}

// reads and refuses hold what Read answers against what is asked for.
func reads(t *testing.T, b []byte, n int, rec []byte) {
	t.Helper()
	if gotN, got, err := slot.Read(b); gotN != n || !bytes.Equal(got, rec) || err != api.OK {
		t.Errorf("Read(%v) = %d, %v, %v, not %d, %v", b, gotN, got, err, n, rec)
	}
}

func refuses(t *testing.T, what string, b []byte, want api.Errno) {
	t.Helper()
	if n, rec, err := slot.Read(b); n != 0 || len(rec) != 0 || err != want {
		t.Errorf("%s: Read(%v) = %d, %v, %v, not 0, none, %v", what, b, n, rec, err, want)
	}
}

// P5.1: a sector, byte by byte, as the document's words lay it out.
func TestBytesAtTheirPlaces(t *testing.T) {
	want := make([]byte, 64)
	copy(want, []byte{2, 1, 0, 0, 0, 0, 0, 0, 3, 0, 7, 8, 9})
	copy(want[54:], []byte{2, 1, 0, 0, 0, 0})
	binary.LittleEndian.PutUint32(want[60:], crc32.ChecksumIEEE(want[:60]))
	if got, err := slot.Bytes(258, []byte{7, 8, 9}); !bytes.Equal(got, want) || err != api.OK {
		t.Errorf("Bytes(258, 7 8 9) = %v, %v, not %v", got, err, want)
	}
	reads(t, want, 258, []byte{7, 8, 9})
}

// P5.1: records of all lengths, of none and of 40 bytes too, with numbers from 1 to 2^40: the sector is the document's, and is read as it was.
func TestBytesAndRead(t *testing.T) {
	for _, rec := range records() {
		for _, n := range numbers() {
			want := right(n, rec).laid()
			got, err := slot.Bytes(n, rec)
			if !bytes.Equal(got, want) || err != api.OK {
				t.Errorf("Bytes(%d, %v) = %v, %v, not %v", n, rec, got, err, want)
			}
			reads(t, want, n, rec)
		}
	}
}

// P5.1: too long a record is told as that, whatever its number is; else a number that may not be.
func TestWrongBytes(t *testing.T) {
	refusesBytes := func(n int, rec []byte, want api.Errno) {
		t.Helper()
		if got, err := slot.Bytes(n, rec); len(got) != 0 || err != want {
			t.Errorf("Bytes(%d, %v) = %v, %v, not none, %v", n, rec, got, err, want)
		}
	}
	for _, size := range []int{41, 42, 44, 54, 64, 65, 256, 65536 + 3} {
		for _, n := range append(numbers(), wrongNumbers()...) {
			refusesBytes(n, make([]byte, size), api.ErrLong)
		}
	}
	for _, rec := range records() {
		for _, n := range wrongNumbers() {
			refusesBytes(n, rec, api.ErrRange)
		}
	}
}

// P5.1: what has not 64 bytes is told as that, be it noughts, a sector that is cut, or one with more behind it.
func TestReadOfWrongSizes(t *testing.T) {
	whole := right(5, record(40, 1)).laid()
	refuses(t, "nil", nil, api.ErrBytes)
	for _, size := range []int{0, 1, 8, 32, 60, 63, 65, 66, 128, 64 + 256, 65536} {
		refuses(t, "noughts", make([]byte, size), api.ErrBytes)
		refuses(t, "a sector, cut or with more", append(slices.Clone(whole), make([]byte, 65536)...)[:size], api.ErrBytes)
	}
}

// P5.1: 64 noughts are missing; with any bit of them turned they are corrupt.
func TestReadOfNoughts(t *testing.T) {
	refuses(t, "noughts", make([]byte, 64), api.ErrMissing)
	for bit := range 8 * 64 {
		b := make([]byte, 64)
		b[bit/8] = 1 << (bit % 8)
		refuses(t, "noughts with a bit turned", b, api.ErrCorrupt)
	}
	refuses(t, "bytes 1", bytes.Repeat([]byte{1}, 64), api.ErrCorrupt)
	refuses(t, "bytes 255", bytes.Repeat([]byte{255}, 64), api.ErrCorrupt)
	refuses(t, "noughts with their checksum", raw{}.laid(), api.ErrCorrupt)
}

// P5.1: a sector of which one byte is changed is corrupt, whichever byte, whatever it is then.
func TestReadOfOneByteChanged(t *testing.T) {
	for _, r := range []raw{right(1, nil), right(258, record(3, 1)), right(most, record(40, 2))} {
		for at := range 64 {
			for by := range 255 {
				b := r.laid()
				b[at] += byte(by + 1)
				refuses(t, "a byte changed", b, api.ErrCorrupt)
			}
		}
	}
}

// P5.1: a length above 40 is corrupt, whatever stands behind it, though the checksum is right.
func TestReadOfTooLongRecords(t *testing.T) {
	for _, size := range []uint16{41, 42, 43, 44, 45, 50, 54, 64, 255, 256, 256 + 3, 1<<15 + 3, 65535} {
		for _, body := range [][]byte{nil, record(3, 1), record(40, 1), record(44, 1)} {
			refuses(t, "too long a record", raw{7, size, body, 7}.laid(), api.ErrCorrupt)
		}
	}
}

// P5.1: a byte behind the record that is not nought is corrupt, at each place, though the checksum is right; where the length takes it in it is the record's.
func TestReadOfBytesBehindTheRecord(t *testing.T) {
	for size := range 41 {
		for at := range 44 {
			body := make([]byte, 44)
			body[at] = 1
			b := raw{7, uint16(size), body, 7}.laid()
			if at < size {
				reads(t, b, 7, body[:size])
			} else {
				refuses(t, "a byte behind the record", b, api.ErrCorrupt)
			}
		}
	}
}

// P5.1: two numbers that differ, in any bit, are corrupt, though the checksum is right; so is one that may not be, though both are the same.
func TestReadOfWrongNumbers(t *testing.T) {
	for _, n := range []uint64{1, 5, 258, most - 1, most} {
		for bit := range 64 {
			refuses(t, "two numbers", raw{n ^ 1<<bit, 3, record(3, 1), n}.laid(), api.ErrCorrupt)
		}
		for bit := range 48 {
			refuses(t, "two numbers", raw{n, 3, record(3, 1), n ^ 1<<bit}.laid(), api.ErrCorrupt)
		}
	}
	for _, n := range append(wrongNumbers(), 1<<48, 1<<62) {
		refuses(t, "a number that may not be", raw{uint64(n), 3, record(3, 1), uint64(n)}.laid(), api.ErrCorrupt)
	}
	refuses(t, "the number 2^63", raw{1 << 63, 3, record(3, 1), 1 << 63}.laid(), api.ErrCorrupt)
}

// P5.1: what is torn, half of one sector and half of another one with an unlike number, is corrupt, also where both halves have one record, or one of them noughts.
func TestReadOfHalves(t *testing.T) {
	l := [][]byte{make([]byte, 64)}
	for _, n := range []int{1, 2, 3, 256, 257, most} {
		l = append(l, right(n, record(40, 1)).laid(), right(n, nil).laid())
	}
	for i, a := range l {
		for j, b := range l {
			if (i+1)/2 != (j+1)/2 {
				refuses(t, "two halves", slices.Concat(a[:32], b[32:]), api.ErrCorrupt)
			}
		}
	}
}

// P5.1, rule 4: what is handed in is left as it is, its spare room is not looked at; what is told is new memory, its spare room too.
func TestBytesAndReadOfWhatIsHandedIn(t *testing.T) {
	room := record(60, 1)
	was := slices.Clone(room)
	b, err := slot.Bytes(9, room[:20])
	ok(t, "Bytes", err)
	again, _ := slot.Bytes(9, room[:20])
	fill(b, 200)
	if !bytes.Equal(room, was) || !bytes.Equal(again, right(9, was[:20]).laid()) {
		t.Error("what Bytes told shares memory")
	}
	long := append(right(9, was[:20]).laid(), was...)
	kept := slices.Clone(long)
	_, rec, err := slot.Read(long[:64])
	ok(t, "Read", err)
	_, other, _ := slot.Read(long[:64])
	fill(rec, 200)
	if !bytes.Equal(long, kept) || !bytes.Equal(other, was[:20]) {
		t.Error("what Read told shares memory")
	}
	fill(long, 100)
	if !bytes.Equal(other, was[:20]) {
		t.Error("what Read told changes with what it was handed")
	}
}

// fill lays one byte over a text and its spare room.
func fill(b []byte, c byte) {
	b = b[:cap(b)]
	for i := range b {
		b[i] = c
	}
}
