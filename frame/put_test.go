package frame_test

import (
	"bytes"
	"slices"
	"testing"

	"tandem/api"
	"tandem/frame"
)

// P12.1: the chapter's examples.
func TestExamplesOfPut(t *testing.T) {
	b, err := frame.Put([]byte{1, 2, 3})
	if len(b) != 12 || err != api.OK {
		t.Errorf("Put(1 2 3) = %v, %v, not 12 bytes", b, err)
	}
	gets(t, b, []byte{1, 2, 3})
}

// P12.1: payloads, and their datagrams, both written out.
func TestPutWrittenOut(t *testing.T) {
	for _, c := range []struct{ payload, want []byte }{
		{nil, []byte{84, 68, 1, 0, 0, 75, 59, 5, 30}},
		{[]byte{}, []byte{84, 68, 1, 0, 0, 75, 59, 5, 30}},
		{[]byte{0}, []byte{84, 68, 1, 1, 0, 0, 153, 24, 208, 50}},
		{[]byte{255}, []byte{84, 68, 1, 1, 0, 255, 20, 247, 210, 31}},
		{[]byte{1, 2, 3}, []byte{84, 68, 1, 3, 0, 1, 2, 3, 69, 131, 11, 34}},
		{make([]byte, 199), slices.Concat([]byte{84, 68, 1, 199, 0}, make([]byte, 199), []byte{43, 168, 58, 62})},
		{bytes.Repeat([]byte{7}, 200), slices.Concat([]byte{84, 68, 1, 200, 0}, bytes.Repeat([]byte{7}, 200), []byte{151, 42, 1, 243})},
	} {
		puts(t, c.payload, c.want)
		gets(t, c.want, c.payload)
	}
}

// P12.1: payloads at the bounds and beside them are put.
func TestPutOfEdges(t *testing.T) {
	for _, payload := range edges() {
		puts(t, payload, laid(payload))
	}
}

// P12.1: a payload of each size that may be is put, whatever its bytes.
func TestPutOfEachSize(t *testing.T) {
	r := chance(1)
	for size := range most + 1 {
		for _, payload := range [][]byte{make([]byte, size), bytes.Repeat([]byte{255}, size), rising(size, 1), wild(r, size), wild(r, size)} {
			puts(t, payload, laid(payload))
		}
	}
	for c := range 256 {
		puts(t, []byte{byte(c)}, laid([]byte{byte(c)}))
	}
}

// P12.1, rule 2: a payload of more than 200 bytes is refused, be it by one or by many, and though what is left of its size in a byte, or in two, be a payload's; beside the error there is nothing.
func TestPutOfTooMany(t *testing.T) {
	for _, size := range []int{201, 202, 210, 254, 255, 256, 257, 300, 400, 456, 457, 511, 512, 513, 65535, 65536, 65537, 65536 + 200, 65536 + 201, 1 << 20, 1<<24 + 3} {
		refused(t, make([]byte, size))
		refused(t, bytes.Repeat([]byte{255}, size))
		refused(t, rising(size, 2))
	}
}

// P12.1: what stands in a payload's spare room does not count.
func TestPutReadsNoSpareRoom(t *testing.T) {
	room := rising(most+56, 4)
	for size := range most + 1 {
		puts(t, room[:size], laid(slices.Clone(room[:size])))
	}
	refused(t, room[:most+1])
}
