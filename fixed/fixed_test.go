package fixed_test

import (
	"bytes"
	"math"
	"slices"
	"testing"

	"tandem/api"
	"tandem/fixed"
)

// bytesOf tells a number's bytes by dividing it by 256, so that it leans on none of what it is held against.
func bytesOf(n uint64, size int) []byte {
	var l []byte
	for range size {
		l = append(l, byte(n%256))
		n /= 256
	}
	return l
}

// numberOf tells the number that bytes are, by multiplying and adding from the last one on.
func numberOf(l []byte) uint64 {
	var n uint64
	for _, c := range slices.Backward(l) {
		n = n*256 + uint64(c)
	}
	return n
}

// limit tells 256 to the power of a size.
func limit(size int) int {
	n := 1
	for range size {
		n *= 256
	}
	return n
}

// wild tells numbers without a pattern, each the same in every run.
func wild(count int) []uint64 {
	l := make([]uint64, count)
	seed := uint64(3)
	for i := range l {
		seed = seed*6364136223846793005 + 1442695040888963407
		l[i] = seed ^ seed>>29
	}
	return l
}

// longs tells numbers of 64 bits: none and all bits, each bit alone and missing, each byte alone, rows, and many without a pattern.
func longs() []uint64 {
	l := []uint64{0, 1, 2, 255, 256, 257, 258, math.MaxUint32, math.MaxUint32 + 1, math.MaxInt64, 1 << 63, math.MaxUint64, math.MaxUint64 - 1, 0x0102030405060708, 0x8070605040302010}
	for i := range 64 {
		l = append(l, 1<<i, math.MaxUint64^1<<i, 1<<i-1)
	}
	for i := range 8 {
		l = append(l, 0xff<<(8*i), 0xa5<<(8*i))
	}
	return append(l, wild(200)...)
}

// numbers tells those that a size has room for, the least and the greatest ones too.
func numbers(size int) []int {
	top := limit(size)
	l := []int{0, 1, 2, 127, 128, 254, 255, top / 2, top/2 - 1, top/256 - 1, top / 256, top - 2, top - 1}
	for _, n := range longs() {
		l = append(l, int(n%uint64(top)))
	}
	return l
}

// wrongSizes tells numbers that are no sizes of Put and Get; among them those whose lowest bits are one.
func wrongSizes() []int {
	return []int{0, 8, 9, 15, 16, 64, 256, 257, 1<<32 + 1, -1, -2, -7, -8, -255, -1 << 32, math.MaxInt, math.MinInt, math.MinInt + 1}
}

// wrongPlaces tells places that bytes, so many of them, do not have.
func wrongPlaces(count int) []int {
	return []int{-1, -2, -7, -8, -1 << 32, math.MinInt, math.MinInt + 1, count + 1, count + 2, count + 8, 1<<32 + count, math.MaxInt - 8, math.MaxInt - 1, math.MaxInt}
}

// rows tells bytes to read in, from none of them to some more than the longest number has.
func rows() [][]byte {
	l := [][]byte{nil, {}}
	for i, n := range wild(40) {
		row := append(bytesOf(n, 8), bytesOf(^n, 8)...)
		l = append(l, row[:i%17])
	}
	return append(l, bytes.Repeat([]byte{0}, 20), bytes.Repeat([]byte{255}, 20))
}

// refused and laid hold what Put answers against what is asked for.
func refused(t *testing.T, n, size int, want api.Errno) {
	t.Helper()
	if got, err := fixed.Put(n, size); len(got) != 0 || err != want {
		t.Errorf("Put(%d, %d) = %v, %v, not nothing, %v", n, size, got, err, want)
	}
}

func laid(t *testing.T, n, size int, want []byte) {
	t.Helper()
	if got, err := fixed.Put(n, size); !bytes.Equal(got, want) || err != api.OK {
		t.Errorf("Put(%d, %d) = %v, %v, not %v", n, size, got, err, want)
	}
}

// reader is one of the three that read, and what it is called in a fault that a test tells.
type reader struct {
	name string
	size int
	read func(b []byte, at int) (uint64, int, api.Fault)
}

// readers tells all of them: Get once for each size.
func readers() []reader {
	l := []reader{{"GetLong", 8, fixed.GetLong}, {"GetWord", 4, func(b []byte, at int) (uint64, int, api.Fault) {
		n, end, fault := fixed.GetWord(b, at)
		return uint64(n), end, fault
	}}}
	for size := 1; size <= 7; size++ {
		l = append(l, reader{"Get", size, func(b []byte, at int) (uint64, int, api.Fault) {
			n, end, fault := fixed.Get(b, at, size)
			return uint64(n), end, fault
		}})
	}
	return l
}

// reads, faults hold what a reader answers against what is asked for.
func (r reader) reads(t *testing.T, b []byte, at int, want uint64) {
	t.Helper()
	if n, end, fault := r.read(b, at); n != want || end != at+r.size || fault != (api.Fault{}) {
		t.Errorf("%s of %d bytes in %v at %d = %d, %d, %v, not %d, %d", r.name, r.size, b, at, n, end, fault, want, at+r.size)
	}
}

func (r reader) faults(t *testing.T, b []byte, at int, want api.Fault) {
	t.Helper()
	if n, end, fault := r.read(b, at); n != 0 || end != 0 || fault != want {
		t.Errorf("%s of %d bytes in %v at %d = %d, %d, %v, not 0, 0, %v", r.name, r.size, b, at, n, end, fault, want)
	}
}

// P3.1: the chapter's examples.
func TestExamplesOfPut(t *testing.T) {
	laid(t, 258, 2, []byte{2, 1})
	refused(t, 256, 1, api.ErrRange)
	refused(t, 1, 8, api.ErrArg)
	if got := fixed.Word(1); !bytes.Equal(got, []byte{1, 0, 0, 0}) {
		t.Error("Word(1):", got)
	}
	if got := fixed.Long(1 << 63); !bytes.Equal(got, []byte{0, 0, 0, 0, 0, 0, 0, 128}) {
		t.Error("Long(2^63):", got)
	}
}

// P3.2: the chapter's examples.
func TestExamplesOfGet(t *testing.T) {
	if n, end, fault := fixed.Get([]byte{9, 2, 1}, 1, 2); n != 258 || end != 3 || fault != (api.Fault{}) {
		t.Error("Get(9 2 1, 1, 2):", n, end, fault)
	}
	if n, end, fault := fixed.Get([]byte{9, 2, 1}, 2, 2); n != 0 || end != 0 || fault != (api.Fault{Err: api.ErrBytes, At: 3}) {
		t.Error("Get(9 2 1, 2, 2):", n, end, fault)
	}
	if n, end, fault := fixed.Get([]byte{9}, 2, 1); n != 0 || end != 0 || fault != (api.Fault{Err: api.ErrRange}) {
		t.Error("Get(9, 2, 1):", n, end, fault)
	}
	if n, end, fault := fixed.GetWord([]byte{0, 1, 0, 0, 0}, 1); n != 1 || end != 5 || fault != (api.Fault{}) {
		t.Error("GetWord(0 1 0 0 0, 1):", n, end, fault)
	}
	if n, end, fault := fixed.GetLong(make([]byte, 7), 0); n != 0 || end != 0 || fault != (api.Fault{Err: api.ErrBytes, At: 7}) {
		t.Error("GetLong(seven bytes, 0):", n, end, fault)
	}
}

// P3.1: Put tells so many bytes, the lowest one first, of each size from 1 to 7.
func TestPut(t *testing.T) {
	for size := 1; size <= 7; size++ {
		for _, n := range numbers(size) {
			laid(t, n, size, bytesOf(uint64(n), size))
		}
		laid(t, 0, size, make([]byte, size))
		laid(t, 1, size, append([]byte{1}, make([]byte, size-1)...))
		laid(t, limit(size)-1, size, bytes.Repeat([]byte{255}, size))
		laid(t, limit(size-1), size, append(make([]byte, size-1), 1))
	}
	laid(t, 0x01020304050607, 7, []byte{7, 6, 5, 4, 3, 2, 1})
	laid(t, api.MaxTerm, 6, []byte{0, 0, 0, 0, 0, 1})
}

// P3.1: a number below 0, or one that a size has no room for, is refused, be it too great by one or by much.
func TestPutOfNumbersOutOfRange(t *testing.T) {
	for size := 1; size <= 7; size++ {
		top := limit(size)
		for _, n := range []int{-1, -2, -255, -256, -top, 1 - top, -1 - top, math.MinInt, math.MinInt + 1, top, top + 1, top + 255, 2 * top, math.MaxInt - 1, math.MaxInt} {
			refused(t, n, size, api.ErrRange)
		}
		for bit := 8 * size; bit < 63; bit++ {
			refused(t, 1<<bit, size, api.ErrRange)
			refused(t, 1<<bit+1, size, api.ErrRange)
		}
	}
	refused(t, api.MaxTerm, 5, api.ErrRange)
}

// P3.1: what is no size is refused, ahead of whatever is wrong with the number.
func TestPutOfWrongSizes(t *testing.T) {
	for _, size := range wrongSizes() {
		for _, n := range []int{0, 1, 255, 256, -1, math.MaxInt, math.MinInt} {
			refused(t, n, size, api.ErrArg)
		}
	}
}

// P3.1: Word and Long tell all bytes of any number, the lowest one first.
func TestWordAndLong(t *testing.T) {
	for _, n := range longs() {
		if got := fixed.Long(n); !bytes.Equal(got, bytesOf(n, 8)) {
			t.Errorf("Long(%#x) = %v", n, got)
		}
		for _, w := range []uint32{uint32(n), uint32(n >> 32)} {
			if got := fixed.Word(w); !bytes.Equal(got, bytesOf(uint64(w), 4)) {
				t.Errorf("Word(%#x) = %v", w, got)
			}
		}
	}
	if got := fixed.Word(0); !bytes.Equal(got, make([]byte, 4)) {
		t.Error("Word(0):", got)
	}
	if got := fixed.Word(math.MaxUint32); !bytes.Equal(got, []byte{255, 255, 255, 255}) {
		t.Error("Word of all bits:", got)
	}
	if got := fixed.Word(0x04030201); !bytes.Equal(got, []byte{1, 2, 3, 4}) {
		t.Error("Word of four bytes:", got)
	}
	if got := fixed.Long(0); !bytes.Equal(got, make([]byte, 8)) {
		t.Error("Long(0):", got)
	}
	if got := fixed.Long(math.MaxUint64); !bytes.Equal(got, bytes.Repeat([]byte{255}, 8)) {
		t.Error("Long of all bits:", got)
	}
	if got := fixed.Long(0x0807060504030201); !bytes.Equal(got, []byte{1, 2, 3, 4, 5, 6, 7, 8}) {
		t.Error("Long of eight bytes:", got)
	}
}

// P3.2: each place from which there are bytes enough on is read; each other one is told at the end of the bytes, the end itself too.
func TestGetAtEachPlace(t *testing.T) {
	for _, r := range readers() {
		for _, b := range rows() {
			for at := range len(b) + 1 {
				if at+r.size <= len(b) {
					r.reads(t, b, at, numberOf(b[at:at+r.size]))
				} else {
					r.faults(t, b, at, api.Fault{Err: api.ErrBytes, At: len(b)})
				}
			}
		}
	}
}

// P3.2: the edges, each by itself: just as many bytes as are needed, one less, one more; at 0 and behind others; no bytes at all.
func TestGetAtTheEdges(t *testing.T) {
	const first = 0x0807060504030201
	all := []byte{1, 2, 3, 4, 5, 6, 7, 8, 9}
	for _, r := range readers() {
		low := uint64(first) << (64 - 8*r.size) >> (64 - 8*r.size)
		r.reads(t, all[:r.size], 0, low)
		r.reads(t, all[:r.size+1], 0, low)
		r.reads(t, append([]byte{77, 78}, all[:r.size]...), 2, low)
		r.reads(t, bytes.Repeat([]byte{255}, r.size), 0, math.MaxUint64>>(64-8*r.size))
		r.reads(t, make([]byte, r.size), 0, 0)
		r.faults(t, all[:r.size-1], 0, api.Fault{Err: api.ErrBytes, At: r.size - 1})
		r.faults(t, all[:r.size], 1, api.Fault{Err: api.ErrBytes, At: r.size})
		r.faults(t, all, 9, api.Fault{Err: api.ErrBytes, At: 9})
		r.faults(t, nil, 0, api.Fault{Err: api.ErrBytes})
		r.faults(t, []byte{}, 0, api.Fault{Err: api.ErrBytes})
	}
}

// P3.2: a place that the bytes do not have is told at 0, be it off by one or so far that adding a size wraps round.
func TestGetAtWrongPlaces(t *testing.T) {
	for _, r := range readers() {
		for _, b := range rows() {
			for _, at := range wrongPlaces(len(b)) {
				r.faults(t, b, at, api.Fault{Err: api.ErrRange})
			}
		}
	}
}

// P3.2: what is no size is told at 0, ahead of a wrong place and of too few bytes.
func TestGetOfWrongSizes(t *testing.T) {
	for _, size := range wrongSizes() {
		for _, b := range [][]byte{nil, {1}, make([]byte, 8), bytes.Repeat([]byte{255}, 300)} {
			for _, at := range append(wrongPlaces(len(b)), 0, 1, len(b)-1, len(b)) {
				if n, end, fault := fixed.Get(b, at, size); n != 0 || end != 0 || fault != (api.Fault{Err: api.ErrArg}) {
					t.Errorf("Get(%d bytes, %d, %d) = %d, %d, %v, not ErrArg at 0", len(b), at, size, n, end, fault)
				}
			}
		}
	}
}

// P3.3: what is put is got, wherever it stands, and whatever stands about it.
func TestWhatIsPutIsGot(t *testing.T) {
	for _, r := range readers() {
		for _, n := range longs() {
			n = n << (64 - 8*r.size) >> (64 - 8*r.size)
			b := r.put(t, n)
			if len(b) != r.size {
				t.Errorf("%d as %d bytes: %v", n, r.size, b)
			}
			r.reads(t, b, 0, n)
			for _, c := range []byte{0, 255, 165} {
				about := bytes.Repeat([]byte{c}, 3)
				r.reads(t, slices.Concat(about, b, about), 3, n)
			}
		}
	}
}

// P3.3: there are no other bytes of that size: any bytes are those of the number that they are, and of two sets of bytes no number is the same.
func TestNoOtherBytes(t *testing.T) {
	for _, r := range readers() {
		for _, n := range wild(100) {
			b := bytesOf(n, r.size)
			was, _, _ := r.read(b, 0)
			if got := r.put(t, was); !bytes.Equal(got, b) {
				t.Errorf("%s of %v is %d, which is put as %v", r.name, b, was, got)
			}
			for bit := range 8 * r.size {
				other := slices.Clone(b)
				other[bit/8] ^= 1 << (bit % 8)
				if now, _, _ := r.read(other, 0); now == was {
					t.Errorf("%s of %v and of %v is %d", r.name, b, other, now)
				}
			}
		}
	}
	one := map[int]int{}
	two := map[int]int{}
	for n := range 1 << 16 {
		b := bytesOf(uint64(n), 2)
		low, _, _ := fixed.Get(b, 0, 1)
		both, _, _ := fixed.Get(b, 0, 2)
		one[low]++
		two[both]++
	}
	if len(one) != 256 || len(two) != 1<<16 {
		t.Errorf("one byte is %d numbers, two are %d", len(one), len(two))
	}
}

// put tells a number's bytes by the function whose bytes the reader reads.
func (r reader) put(t *testing.T, n uint64) []byte {
	t.Helper()
	switch r.name {
	case "GetLong":
		return fixed.Long(n)
	case "GetWord":
		return fixed.Word(uint32(n))
	}
	b, err := fixed.Put(int(n), r.size)
	if err != api.OK {
		t.Errorf("Put(%d, %d): %v", n, r.size, err)
	}
	return b
}

// Rule 4: the bytes that are handed in are left as they are, and their spare room is not looked at.
func TestBytesAreLeftAlone(t *testing.T) {
	for _, r := range readers() {
		room := []byte{1, 2, 3, 4, 5, 6, 7, 8, 9, 10, 11, 12}
		was := slices.Clone(room)
		r.reads(t, room[:r.size+1], 1, numberOf(room[1:r.size+1]))
		r.faults(t, room[:r.size], 1, api.Fault{Err: api.ErrBytes, At: r.size})
		r.faults(t, room[:0], 0, api.Fault{Err: api.ErrBytes})
		r.faults(t, room[:3], 4, api.Fault{Err: api.ErrRange})
		if !bytes.Equal(room, was) {
			t.Error(r.name, "changed the bytes:", room)
		}
	}
}

// Rule 4: bytes that are told are new memory each time, their spare room too.
func TestBytesAreNew(t *testing.T) {
	for _, r := range readers() {
		first, second := r.put(t, 77), r.put(t, 77)
		first = first[:cap(first)]
		for i := range first {
			first[i] = 0xee
		}
		if bytes.Contains(second[:cap(second)], []byte{0xee}) || !bytes.Equal(r.put(t, 77), second) {
			t.Errorf("%s: bytes of size %d share memory", r.name, r.size)
		}
	}
}
