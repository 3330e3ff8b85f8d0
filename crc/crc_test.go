package crc_test

import (
	"bytes"
	"testing"

	"tandem/crc"
)

// walk is the checksum as the document's words tell it, bit by bit: what Sum is held against.
func walk(b []byte) uint32 {
	rest := uint32(1<<32 - 1)
	for _, x := range b {
		rest ^= uint32(x)
		for range 8 {
			if rest&1 == 1 {
				rest = rest>>1 ^ 3988292384
			} else {
				rest >>= 1
			}
		}
	}
	return ^rest
}

// mixed tells bytes without a pattern, the same ones whenever it is asked.
func mixed(size int, seed uint32) []byte {
	b := make([]byte, size)
	for i := range b {
		seed = seed*1664525 + 1013904223
		b[i] = byte(seed >> 24)
	}
	return b
}

// texts tells those on which the promises are tried: none, short ones, all the same byte, long ones.
func texts() [][]byte {
	l := [][]byte{nil, {}, {0}, {255}, make([]byte, 33), bytes.Repeat([]byte{255}, 33), []byte("123456789")}
	for size := range 70 {
		l = append(l, mixed(size, uint32(size)))
	}
	return append(l, mixed(4096, 1), mixed(100003, 2))
}

// turned tells b with the bits of mask turned from a bit on; the bits of a byte are counted from its lowest one, as the checksum takes them.
func turned(b []byte, at int, mask uint32) []byte {
	c := bytes.Clone(b)
	for i := range 32 {
		if mask>>i&1 == 1 {
			c[(at+i)/8] ^= 1 << ((at + i) % 8)
		}
	}
	return c
}

// P1.1: the chapter's examples.
func TestExamples(t *testing.T) {
	if got := crc.Sum(nil); got != 0 {
		t.Error("Sum of none:", got)
	}
	if got := crc.Sum([]byte("123456789")); got != 3421780262 {
		t.Error("Sum of the digits:", got)
	}
	if got := crc.More(crc.Sum([]byte("1234")), []byte("56789")); got != 3421780262 {
		t.Error("More of the digits:", got)
	}
	if !crc.Right(nil, 0) {
		t.Error("Right(none, 0) is false")
	}
	if crc.Right(nil, 1) {
		t.Error("Right(none, 1) is true")
	}
}

// P1.1: sums that Ethernet's checksum is known to have, so that Sum and walk are not wrong in the same way.
func TestKnownSums(t *testing.T) {
	for _, k := range []struct {
		b   []byte
		sum uint32
	}{
		{[]byte{}, 0},
		{[]byte("a"), 0xe8b7be43},
		{[]byte("abc"), 0x352441c2},
		{make([]byte, 32), 0x190a55ad},
		{bytes.Repeat([]byte{255}, 32), 0xff6cab0b},
		{[]byte("The quick brown fox jumps over the lazy dog"), 0x414fa339},
	} {
		if got := crc.Sum(k.b); got != k.sum {
			t.Errorf("Sum(%q) = %08x, not %08x", k.b, got, k.sum)
		}
	}
}

// P1.1: Sum is the checksum, as it is defined.
func TestSumIsTheChecksum(t *testing.T) {
	for _, b := range texts() {
		if got, want := crc.Sum(b), walk(b); got != want {
			t.Errorf("Sum of %d bytes = %08x, not %08x", len(b), got, want)
		}
	}
	for x := range 256 {
		b := []byte{byte(x)}
		if got, want := crc.Sum(b), walk(b); got != want {
			t.Errorf("Sum of byte %d = %08x, not %08x", x, got, want)
		}
	}
}

// P1.1: Right tells the bytes' own sum, and no other one.
func TestRight(t *testing.T) {
	for _, b := range texts() {
		own := walk(b)
		if !crc.Right(b, own) {
			t.Errorf("%d bytes: their own sum is not right", len(b))
		}
		for bit := range 32 {
			if crc.Right(b, own^1<<bit) {
				t.Errorf("%d bytes: their sum with bit %d turned is right", len(b), bit)
			}
		}
		for _, wrong := range []uint32{own + 1, own - 1, ^own} {
			if crc.Right(b, wrong) {
				t.Errorf("%d bytes: the sum %08x is right, beside %08x", len(b), wrong, own)
			}
		}
	}
	if crc.Right([]byte{0}, 0) || crc.Right([]byte("123456789"), 0) || crc.Right([]byte("123456788"), 3421780262) {
		t.Error("a sum of other bytes is right")
	}
}

// P1.1: More goes on from whatever sum it is given, also where nobody has the bytes.
func TestMoreOfAnySum(t *testing.T) {
	for _, sum := range []uint32{0, 1, 1 << 31, 0xcbf43926, 1<<32 - 1} {
		if got := crc.More(sum, nil); got != sum {
			t.Errorf("More(%08x, none) = %08x", sum, got)
		}
		b := bytesOf(sum)
		if got := crc.Sum(b); got != sum {
			t.Fatalf("Sum(%v) = %08x, not %08x", b, got, sum)
		}
		for _, tail := range texts() {
			want := walk(append(bytes.Clone(b), tail...))
			if got := crc.More(sum, tail); got != want {
				t.Errorf("More(%08x, %d bytes) = %08x, not %08x", sum, len(tail), got, want)
			}
		}
	}
}

// bytesOf tells the four bytes that have a sum: it goes back over the walk, from its end.
func bytesOf(sum uint32) []byte {
	rest := ^sum
	for range 32 {
		if rest>>31 == 1 {
			rest = (rest^3988292384)<<1 | 1
		} else {
			rest <<= 1
		}
	}
	rest = ^rest
	return []byte{byte(rest), byte(rest >> 8), byte(rest >> 16), byte(rest >> 24)}
}

// P1.2: a cut anywhere: ahead of the first byte, between any two, behind the last one.
func TestCutAnywhere(t *testing.T) {
	for _, b := range texts() {
		if len(b) > 200 {
			continue
		}
		all := crc.Sum(b)
		for cut := range len(b) + 1 {
			if got := crc.More(crc.Sum(b[:cut]), b[cut:]); got != all {
				t.Errorf("%d bytes, cut at %d: %08x, not %08x", len(b), cut, got, all)
			}
		}
	}
}

// P1.2: more than one cut, two at the same place too; and a piece for each byte.
func TestManyCuts(t *testing.T) {
	b := mixed(40, 7)
	all := crc.Sum(b)
	for i := range len(b) + 1 {
		for j := i; j <= len(b); j++ {
			if got := crc.More(crc.More(crc.Sum(b[:i]), b[i:j]), b[j:]); got != all {
				t.Errorf("cut at %d and %d: %08x, not %08x", i, j, got, all)
			}
		}
	}
	long := mixed(100003, 2)
	sum := crc.Sum(nil)
	for i := range long {
		sum = crc.More(sum, long[i:i+1])
	}
	if sum != crc.Sum(long) {
		t.Errorf("byte by byte: %08x, not %08x", sum, crc.Sum(long))
	}
}

// masks tells what is turned within 32 bits: one bit alone, two, all from one on, all 32, and many without a pattern.
func masks() []uint32 {
	l := []uint32{1<<32 - 1, 0xdeadbeef, 0xaaaaaaaa, 0x55555555, 0xedb88320, 0x04c11db7, 0x82608edb}
	for i := range 32 {
		l = append(l, 1<<i, 1|1<<i, 1<<i|1<<31, 1<<i-1|1<<i)
	}
	seed := uint32(3)
	for range 200 {
		seed = seed*1664525 + 1013904223
		l = append(l, seed|1)
	}
	return l
}

// P1.3: what is turned within 32 bits in a row is found, at each place of a text, the first and the last one too.
func TestTurnedBitsAreFound(t *testing.T) {
	for _, b := range [][]byte{make([]byte, 4), make([]byte, 21), bytes.Repeat([]byte{255}, 21), mixed(5, 4), mixed(64, 5)} {
		sum := crc.Sum(b)
		for at := range 8*len(b) - 31 {
			for _, mask := range masks() {
				c := turned(b, at, mask)
				if crc.Sum(c) == sum || crc.Right(c, sum) {
					t.Errorf("%d bytes, from bit %d on %08x turned: not found", len(b), at, mask)
				}
			}
		}
	}
}

// P1.3: one bit alone, in texts that are too short for 32 as well.
func TestOneBitIsFound(t *testing.T) {
	for size := 1; size < 70; size++ {
		b := mixed(size, uint32(size))
		sum := crc.Sum(b)
		for bit := range 8 * size {
			c := bytes.Clone(b)
			c[bit/8] ^= 1 << (bit % 8)
			if crc.Right(c, sum) {
				t.Errorf("%d bytes, bit %d turned: not found", size, bit)
			}
		}
	}
}

// P1.3: texts of one, two bytes differ within 32 bits, whatever they are: no two of the same length have the same sum.
func TestShortTextsHaveUnlikeSums(t *testing.T) {
	one, two := map[uint32]bool{}, map[uint32]bool{}
	for i := range 256 {
		one[crc.Sum([]byte{byte(i)})] = true
	}
	for i := range 65536 {
		two[crc.Sum([]byte{byte(i), byte(i >> 8)})] = true
	}
	if len(one) != 256 || len(two) != 65536 {
		t.Error("sums of one byte, of two:", len(one), len(two))
	}
}

// P1.3, for all the 2^32 - 1 ways to turn 32 bits, which are too many to try: what turned bits change in a sum adds up by xor, and at each place no xor of the 32 changes of one bit alone is nothing.
func TestNoTurnedBitsHideEachOther(t *testing.T) {
	zeros := make([]byte, 68)
	for at := range 8*len(zeros) - 31 {
		if got := rank(zeros, at); got != 32 {
			t.Errorf("from bit %d on: %d of 32 changes are free", at, got)
		}
	}
	for _, mask := range masks() {
		for _, at := range []int{0, 5, 8*len(zeros) - 32} {
			b := mixed(len(zeros), mask)
			change := crc.Sum(turned(zeros, at, mask)) ^ crc.Sum(zeros)
			if crc.Sum(turned(b, at, mask))^crc.Sum(b) != change {
				t.Errorf("from bit %d on, %08x: the change hangs on the text", at, mask)
			}
		}
	}
}

// rank tells how many of the changes that the 32 bits from one on make in the sum are free of each other.
func rank(b []byte, at int) int {
	var free []uint32
	for i := range 32 {
		change := crc.Sum(turned(b, at, 1<<i)) ^ crc.Sum(b)
		for _, f := range free {
			change = min(change, change^f)
		}
		if change != 0 {
			free = append(free, change)
		}
	}
	return len(free)
}

// Rule 4: the bytes that are handed in are left as they are, and their spare room is not looked at.
func TestBytesAreLeftAlone(t *testing.T) {
	room := mixed(64, 9)
	was := bytes.Clone(room)
	sum := crc.Sum(room[:20])
	crc.More(sum, room[:20])
	crc.Right(room[:20], sum)
	if !bytes.Equal(room, was) {
		t.Error("the bytes were changed")
	}
	clear(room[20:])
	if crc.Sum(room[:20]) != sum || sum != walk(was[:20]) {
		t.Error("the sum hangs on the spare room")
	}
}
