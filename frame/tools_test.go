package frame_test

import (
	"bytes"
	"encoding/binary"
	"hash/crc32"
	"math/rand"
	"slices"
	"testing"

	"tandem/api"
	"tandem/frame"
)

// What the document says of a datagram, in numbers of the tests' own.
const (
	most = 200
	bare = 9
)

// sum tells the four bytes of a checksum, by the library, so that it leans on none of what it is held against.
func sum(b []byte) []byte { return binary.LittleEndian.AppendUint32(nil, crc32.ChecksumIEEE(b)) }

// sealed tells bytes, and their checksum behind them.
func sealed(b []byte) []byte { return slices.Concat(b, sum(b)) }

// headed tells a payload with what stands ahead of it in a datagram that says any size.
func headed(size int, payload []byte) []byte {
	return slices.Concat([]byte{84, 68, 1, byte(size), byte(size >> 8)}, payload)
}

// laid tells the datagram of a payload.
func laid(payload []byte) []byte { return sealed(headed(len(payload), payload)) }

// said tells what the document has Get tell of bytes.
func said(b []byte) ([]byte, api.Fault) {
	if len(b) < bare {
		return nil, api.Fault{Err: api.ErrBytes, At: len(b)}
	}
	size := int(b[3]) + 256*int(b[4])
	switch {
	case b[0] != 84 || b[1] != 68:
		return nil, api.Fault{Err: api.ErrMagic, At: 0}
	case b[2] != 1:
		return nil, api.Fault{Err: api.ErrVersion, At: 2}
	case size > most:
		return nil, api.Fault{Err: api.ErrLong, At: 3}
	case len(b) != size+bare:
		return nil, api.Fault{Err: api.ErrBytes, At: 3}
	case !bytes.Equal(b[5+size:], sum(b[:5+size])):
		return nil, api.Fault{Err: api.ErrCorrupt, At: 5 + size}
	}
	return slices.Clone(b[5 : 5+size]), api.Fault{}
}

// rising tells so many bytes that rise by one each, none of them nought; unlike seeds below 255 have unlike bytes everywhere.
func rising(size, seed int) []byte {
	b := make([]byte, size)
	for i := range b {
		b[i] = byte(1 + (i+37*seed)%255)
	}
	return b
}

// edges tells payloads at the bounds and beside them, and ordinary ones: of noughts, of 255, rising; and some that have what a datagram begins with, or are one.
func edges() [][]byte {
	l := [][]byte{nil, {}, {84}, {84, 68}, {84, 68, 1}, {84, 68, 1, 0, 0}, {1, 2, 3}, []byte("TD"), laid(nil), laid([]byte{1, 2, 3}), laid(rising(most-bare, 1))}
	for _, size := range []int{1, 2, 3, 4, 5, 8, 9, 10, 31, 32, 33, 51, 84, 100, 127, 128, 129, most - 1, most} {
		l = append(l, make([]byte, size), bytes.Repeat([]byte{255}, size), rising(size, size))
	}
	return l
}

// few tells some payloads of unlike sizes, for tests that go through each place of each datagram.
func few() [][]byte {
	return [][]byte{nil, {0}, {255}, {1, 2, 3}, make([]byte, 32), rising(53, 2), bytes.Repeat([]byte{255}, most-1), make([]byte, most), rising(most, 3)}
}

// chance tells a source of numbers without a pattern, the same in every run.
func chance(seed int64) *rand.Rand { return rand.New(rand.NewSource(seed)) }

// wild tells bytes without a pattern, so many.
func wild(r *rand.Rand, size int) []byte {
	b := make([]byte, size)
	r.Read(b)
	return b
}

// puts holds what Put answers of a payload against the bytes that are asked for.
func puts(t *testing.T, payload, want []byte) {
	t.Helper()
	if got, err := frame.Put(payload); !bytes.Equal(got, want) || err != api.OK {
		t.Errorf("Put(%v) = %v, %v, not %v", payload, got, err, want)
	}
}

// refused holds what Put answers of a payload that is too long.
func refused(t *testing.T, payload []byte) {
	t.Helper()
	if got, err := frame.Put(payload); got != nil || err != api.ErrLong {
		t.Errorf("Put of %d bytes = %v, %v, not nothing, ErrLong", len(payload), got, err)
	}
}

// gets holds what Get answers of a datagram against its payload.
func gets(t *testing.T, b, want []byte) {
	t.Helper()
	if got, fault := frame.Get(b); !bytes.Equal(got, want) || fault != (api.Fault{}) {
		t.Errorf("Get(%v) = %v, %v, not %v", b, got, fault, want)
	}
}

// faults holds what Get answers of bytes that are no datagram against the fault that is asked for.
func faults(t *testing.T, b []byte, err api.Errno, at int) {
	t.Helper()
	if got, fault := frame.Get(b); got != nil || fault != (api.Fault{Err: err, At: at}) {
		t.Errorf("Get of %d bytes, %v .. = %v, %v, not nothing, %v at %d", len(b), b[:min(len(b), 16)], got, fault, err, at)
	}
}

// asked holds what Get answers of any bytes against what the document has it tell; it tells whether they are a datagram.
func asked(t *testing.T, b []byte) bool {
	t.Helper()
	want, fault := said(b)
	if fault.Err != api.OK {
		faults(t, b, fault.Err, fault.At)
		return false
	}
	gets(t, b, want)
	return true
}

// none holds that bytes are no datagram, and that Get tells of them what the document has it tell.
func none(t *testing.T, b []byte) {
	t.Helper()
	if asked(t, b) {
		t.Errorf("a datagram: %v", b)
	}
}

// scribble writes over bytes and their spare room.
func scribble(b []byte) {
	b = b[:cap(b)]
	for i := range b {
		b[i] = 0xee
	}
}
