package frame_test

import (
	"bytes"
	"slices"
	"testing"

	"tandem/api"
)

// P12.2: the chapter's examples.
func TestExamplesOfGet(t *testing.T) {
	faults(t, nil, api.ErrBytes, 0)
	faults(t, bytes.Repeat([]byte{84}, 9), api.ErrMagic, 0)
	faults(t, []byte{84, 68, 2, 0, 0, 0, 0, 0, 0}, api.ErrVersion, 2)
	faults(t, []byte{84, 68, 1, 1, 0, 0, 0, 0, 0}, api.ErrBytes, 3)
	faults(t, []byte{84, 68, 1, 0, 0, 0, 0, 0, 0}, api.ErrCorrupt, 5)
	faults(t, []byte{84, 68, 1, 201, 0, 0, 0, 0, 0}, api.ErrLong, 3)
}

// P12.2: the datagrams of payloads at the bounds, and of each size, are got.
func TestGetOfDatagrams(t *testing.T) {
	for _, payload := range edges() {
		gets(t, laid(payload), payload)
	}
	r := chance(2)
	for size := range most + 1 {
		for _, payload := range [][]byte{make([]byte, size), bytes.Repeat([]byte{255}, size), wild(r, size)} {
			gets(t, laid(payload), payload)
		}
	}
}

// P12.2: fewer than 9 bytes are told at their end, whatever they are.
func TestGetOfTooFew(t *testing.T) {
	faults(t, nil, api.ErrBytes, 0)
	faults(t, []byte{}, api.ErrBytes, 0)
	r := chance(3)
	for size := range bare {
		for _, b := range [][]byte{make([]byte, size), bytes.Repeat([]byte{255}, size), bytes.Repeat([]byte{84}, size), wild(r, size),
			laid(nil)[:size], laid([]byte{1, 2, 3})[:size], laid(rising(most, 1))[:size],
			sealed([]byte{84, 68, 2, 201, 0})[:size], sealed([]byte{68, 84, 1, 0, 0})[:size]} {
			faults(t, slices.Clone(b), api.ErrBytes, size)
		}
	}
}

// P12.2: a first or a second byte that is not the document's is told at 0, though all else, the checksum too, be right.
func TestGetOfWrongMagic(t *testing.T) {
	for _, payload := range few() {
		b := headed(len(payload), payload)
		for c := range 256 {
			for _, begin := range [][]byte{{byte(c), 68}, {84, byte(c)}, {byte(c), byte(c)}, {byte(c), 84}, {68, byte(c)}} {
				copy(b, begin)
				if bytes.Equal(begin, []byte{84, 68}) {
					gets(t, sealed(b), payload)
				} else {
					faults(t, sealed(b), api.ErrMagic, 0)
				}
			}
		}
	}
}

// P12.2: each version but 1 is told at 2, though all else be right.
func TestGetOfWrongVersions(t *testing.T) {
	for _, payload := range few() {
		b := headed(len(payload), payload)
		for c := range 256 {
			b[2] = byte(c)
			if c == 1 {
				gets(t, sealed(b), payload)
			} else {
				faults(t, sealed(b), api.ErrVersion, 2)
			}
		}
	}
}

// P12.2: a size above 200 is told at 3, though there be as many bytes as it says, or as its lower byte, or its upper one, would say alone.
func TestGetOfTooGreatSizes(t *testing.T) {
	for _, size := range []int{201, 202, 210, 255, 256, 257, 256 + 3, 256 + 200, 256 + 201, 511, 512, 512 + 1, 200 * 256, 201 * 256, 65535 - 255, 65535} {
		for _, there := range []int{size, 0, 1, 3, 200, 201, size & 255, size >> 8, size - 1, size + 1} {
			faults(t, sealed(headed(size, make([]byte, there))), api.ErrLong, 3)
			faults(t, sealed(headed(size, rising(there, 1))), api.ErrLong, 3)
		}
		faults(t, headed(size, make([]byte, 4)), api.ErrLong, 3)
	}
}

// P12.2: a size that is not that of the payload is told at 3, though the checksum be right: one more and one fewer than there are, at its lower byte and at its upper one, and any other.
func TestGetOfWrongSizes(t *testing.T) {
	for there := range most + 3 {
		payload := rising(there, 5)
		for size := range most + 1 {
			if size != there {
				faults(t, sealed(headed(size, payload)), api.ErrBytes, 3)
			}
		}
		faults(t, sealed(headed(256+there, payload)), api.ErrLong, 3)
	}
	for size := range most + 1 {
		for _, there := range []int{256 + size, 512 + size, 256*size + 256, 65536 + size} {
			faults(t, sealed(headed(size, rising(there, 6))), api.ErrBytes, 3)
		}
	}
}

// P12.2: where the checksum is right of as many bytes as the size says, but more stand behind it, or fewer, the size is told.
func TestGetOfASizeThatTheChecksumBears(t *testing.T) {
	for _, payload := range few() {
		whole := laid(payload)
		faults(t, append(slices.Clone(whole), 0), api.ErrBytes, 3)
		faults(t, sealed(whole), api.ErrBytes, 3)
		faults(t, slices.Concat(whole, whole), api.ErrBytes, 3)
		faults(t, slices.Concat(whole, make([]byte, 256)), api.ErrBytes, 3)
		if len(payload) > 0 {
			faults(t, whole[:len(whole)-1], api.ErrBytes, 3)
		}
	}
}

// P12.2: a checksum with a bit turned in any of its four bytes, or with any of them another one, is told where it begins.
func TestGetOfWrongChecksums(t *testing.T) {
	for _, payload := range few() {
		at := 5 + len(payload)
		b := laid(payload)
		for i := at; i < at+4; i++ {
			was := b[i]
			for c := range 256 {
				if byte(c) != was {
					b[i] = byte(c)
					faults(t, b, api.ErrCorrupt, at)
				}
			}
			b[i] = was
		}
		gets(t, b, payload)
	}
}

// P12.2: a checksum of less than all that stands ahead of it, or laid another way, is not right.
func TestGetOfOtherChecksums(t *testing.T) {
	for _, payload := range few() {
		b := headed(len(payload), payload)
		right := sum(b)
		turned := slices.Clone(right)
		slices.Reverse(turned)
		raw := []byte{^right[0], ^right[1], ^right[2], ^right[3]}
		for _, other := range [][]byte{sum(payload), sum(b[:5]), sum(b[2:]), sum(b[3:]), sum(b[1:]), sum(sealed(b)), turned, raw, {0, 0, 0, 0}, {255, 255, 255, 255}} {
			if !bytes.Equal(other, right) {
				faults(t, slices.Concat(b, other), api.ErrCorrupt, 5+len(payload))
			}
		}
	}
}

// P12.2: a payload of which one byte is another one is told where the checksum begins.
func TestGetOfAnotherPayload(t *testing.T) {
	for _, payload := range few() {
		b := laid(payload)
		for i := range payload {
			for _, mask := range []byte{1, 2, 64, 128, 255, 90} {
				b[5+i] ^= mask
				faults(t, b, api.ErrCorrupt, 5+len(payload))
				b[5+i] ^= mask
			}
		}
	}
}

// made is bytes in the making: a datagram, but for what was spoilt of it.
type made struct {
	magic   []byte
	version byte
	size    int
	payload []byte
	mask    []byte // what the checksum is xored with
	keep    int    // how many bytes stay; -1: all
}

func (m made) bytes() []byte {
	b := sealed(slices.Concat(m.magic, []byte{m.version, byte(m.size), byte(m.size >> 8)}, m.payload))
	for i, mask := range m.mask {
		b[len(b)-4+i] ^= mask
	}
	if m.keep >= 0 {
		b = b[:m.keep]
	}
	return b
}

// flaw is one of the faults that Get names, the ways to it, and where it is told.
type flaw struct {
	err  api.Errno
	ways []func(m *made)
	at   func(m made) int
}

// at tells a place that is the same whatever else is wrong.
func at(place int) func(made) int { return func(made) int { return place } }

// flaws tells the faults that Get names, in the promise's order. The ways are gone in that order, too, so that a way to a size that is not the payload's finds the size that it has to miss.
func flaws() []flaw {
	long := flaw{err: api.ErrLong, at: at(3)}
	for _, size := range []int{201, 256, 259, 512, 65535} {
		long.ways = append(long.ways, func(m *made) { m.size, m.payload = size, rising(size, 1) })
	}
	short := flaw{err: api.ErrBytes, at: func(m made) int { return m.keep }}
	for keep := range bare {
		short.ways = append(short.ways, func(m *made) { m.keep = keep })
	}
	wrongMagic := flaw{err: api.ErrMagic, at: at(0)}
	for _, magic := range [][]byte{{85, 68}, {84, 69}, {68, 84}, {0, 0}} {
		wrongMagic.ways = append(wrongMagic.ways, func(m *made) { m.magic = magic })
	}
	wrongVersion := flaw{err: api.ErrVersion, at: at(2)}
	for _, version := range []byte{0, 2, 255} {
		wrongVersion.ways = append(wrongVersion.ways, func(m *made) { m.version = version })
	}
	wrongSize := flaw{err: api.ErrBytes, at: at(3), ways: []func(m *made){
		func(m *made) { m.payload = append(slices.Clone(m.payload), 9) },
		func(m *made) { m.payload = m.payload[:len(m.payload)-1] },
		func(m *made) { m.payload = append(slices.Clone(m.payload), rising(256, 2)...) },
		func(m *made) { m.payload = nil },
	}}
	corrupt := flaw{err: api.ErrCorrupt, at: func(m made) int { return 5 + m.size }}
	for _, mask := range [][]byte{{1, 0, 0, 0}, {0, 128, 0, 0}, {0, 0, 16, 0}, {0, 0, 0, 2}, {255, 255, 255, 255}} {
		corrupt.ways = append(corrupt.ways, func(m *made) { m.mask = mask })
	}
	return []flaw{short, wrongMagic, wrongVersion, long, wrongSize, corrupt}
}

// P12.2, rule 1: each fault alone, with all else right, is told.
func TestGetOfOneFault(t *testing.T) {
	for _, f := range flaws() {
		for _, way := range f.ways {
			m := made{magic: []byte{84, 68}, version: 1, size: 3, payload: []byte{1, 2, 3}, keep: -1}
			way(&m)
			faults(t, m.bytes(), f.err, f.at(m))
		}
	}
}

// P12.2, rule 1: of two faults in one datagram the first one in the promise's order is told, be they neighbours there or not.
func TestGetOfTwoFaults(t *testing.T) {
	l := flaws()
	for i, first := range l {
		for _, second := range l[i+1:] {
			for _, one := range first.ways {
				for _, other := range second.ways {
					m := made{magic: []byte{84, 68}, version: 1, size: 3, payload: []byte{1, 2, 3}, keep: -1}
					one(&m)
					other(&m)
					faults(t, m.bytes(), first.err, first.at(m))
				}
			}
		}
	}
}

// P12.2, rule 1: of all faults from one on the first one is told.
func TestGetOfManyFaults(t *testing.T) {
	l := flaws()
	for i, first := range l {
		for turn := range 20 {
			m := made{magic: []byte{84, 68}, version: 1, size: 3, payload: []byte{1, 2, 3}, keep: -1}
			for _, f := range l[i:] {
				f.ways[turn%len(f.ways)](&m)
			}
			faults(t, m.bytes(), first.err, first.at(m))
		}
	}
}

// P12.2: Get tells what the document has, of bytes without a pattern, some of which begin as a datagram does, and of datagrams of which some bytes are others, with the checksum made anew or not, and of such cut short.
func TestGetAgainstTheDocument(t *testing.T) {
	r := chance(4)
	right := 0
	for range 30000 {
		b := wild(r, r.Intn(260))
		asked(t, b)
		for n := range min(len(b), 5) {
			b[n] = []byte{84, 68, 1, byte(max(0, len(b)-bare)), 0}[n]
			asked(t, b)
		}
		b = headed(0, wild(r, r.Intn(most+5)))
		b[3] = byte(len(b) - 5 + r.Intn(8)/7)
		for range r.Intn(3) {
			b[r.Intn(len(b))] = byte(r.Intn(256) >> r.Intn(9))
		}
		if asked(t, sealed(b)) {
			right++
		}
		b = sealed(b)
		b[r.Intn(len(b))] ^= byte(r.Intn(3))
		asked(t, b)
		asked(t, b[:r.Intn(len(b)+1)])
		asked(t, append(b, make([]byte, r.Intn(3))...))
	}
	if right < 5000 || right > 29000 {
		t.Error("datagrams among bytes with their checksum:", right)
	}
}

// P12.2: what stands in the spare room of bytes does not count.
func TestGetReadsNoSpareRoom(t *testing.T) {
	for _, payload := range few() {
		whole := laid(payload)
		room := append(slices.Clone(whole), whole...)
		gets(t, room[:len(whole)], payload)
		for end := range len(whole) {
			asked(t, room[:end])
			none(t, room[:end])
		}
	}
}
