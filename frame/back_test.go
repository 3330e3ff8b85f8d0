package frame_test

import (
	"bytes"
	"math/bits"
	"slices"
	"testing"

	"tandem/api"
	"tandem/frame"
)

// thereAndBack holds what Get tells of what Put tells against the payload, and what Put tells of that against the bytes.
func thereAndBack(t *testing.T, payload []byte) {
	t.Helper()
	b, err := frame.Put(payload)
	if err != api.OK {
		t.Errorf("Put(%v): %v", payload, err)
		return
	}
	gets(t, b, payload)
	backAndThere(t, b)
}

// backAndThere holds what Put tells of what Get tells, if that is a payload, against the bytes; it tells whether it was one.
func backAndThere(t *testing.T, b []byte) bool {
	t.Helper()
	payload, fault := frame.Get(b)
	if fault.Err != api.OK {
		return false
	}
	puts(t, payload, b)
	return true
}

// P12.3: each payload, put and got, is the same.
func TestWhatIsPutIsGot(t *testing.T) {
	for _, payload := range edges() {
		thereAndBack(t, payload)
	}
	r := chance(5)
	for size := range most + 1 {
		for range 20 {
			thereAndBack(t, wild(r, size))
		}
	}
}

// P12.3: a datagram may be a payload, and is got as it was.
func TestDatagramsWithinDatagrams(t *testing.T) {
	b := []byte{1, 2, 3}
	var all [][]byte
	for len(b) <= most {
		all = append(all, b)
		b = laid(b)
	}
	for _, want := range slices.Backward(all) {
		got, fault := frame.Get(b)
		if !bytes.Equal(got, want) || fault != (api.Fault{}) {
			t.Fatalf("Get(%v) = %v, %v, not %v", b, got, fault, want)
		}
		b = got
	}
}

// P12.3: what is got is put as the same bytes: of bytes without a pattern, and of right datagrams of which a byte is another one, with the checksum as it was, and made anew.
func TestWhatIsGotIsPutAsTheSameBytes(t *testing.T) {
	right := 0
	for _, payload := range few() {
		b := laid(payload)
		for at := range b {
			for mask := 1; mask < 256; mask++ {
				b[at] ^= byte(mask)
				if backAndThere(t, b) {
					t.Errorf("a datagram, though byte %d was xored with %d: %v", at, mask, b)
				}
				if backAndThere(t, sealed(b[:len(b)-4])) {
					right++
				}
				b[at] ^= byte(mask)
			}
		}
	}
	if right < 10000 {
		t.Error("datagrams among those of which a byte was changed, with the checksum made anew:", right)
	}
	r := chance(6)
	right = 0
	for range 20000 {
		b := wild(r, r.Intn(220))
		backAndThere(t, b)
		if backAndThere(t, sealed(headed(len(b)-r.Intn(2), b))) {
			right++
		}
	}
	if right < 5000 {
		t.Error("datagrams among bytes without a pattern:", right)
	}
}

// P12.3: unlike payloads have unlike datagrams.
func TestUnlikePayloadsHaveUnlikeDatagrams(t *testing.T) {
	seen := map[string][]byte{}
	for _, payload := range edges() {
		b, _ := frame.Put(payload)
		if was, there := seen[string(b)]; there && !bytes.Equal(was, payload) {
			t.Errorf("%v and %v have the datagram %v", was, payload, b)
		}
		seen[string(b)] = payload
	}
}

// P12.3: a right datagram that is cut short at any place, at its end or at its beginning, is none.
func TestDatagramsCutShort(t *testing.T) {
	for _, payload := range edges() {
		b := laid(payload)
		for end := range b {
			none(t, slices.Clone(b[:end]))
		}
		for from := 1; from <= len(b); from++ {
			none(t, slices.Clone(b[from:]))
		}
	}
}

// P12.3: a right datagram that has a byte more, at its end, is none.
func TestDatagramsWithAByteMore(t *testing.T) {
	for _, payload := range edges() {
		b := laid(payload)
		for c := range 256 {
			none(t, append(slices.Clone(b), byte(c)))
		}
	}
}

// P12.3: a right datagram that has a byte more, or fewer, anywhere within it is none.
func TestDatagramsWithAByteMoreOrFewerWithin(t *testing.T) {
	for _, payload := range few() {
		b := laid(payload)
		for at := range b {
			none(t, slices.Delete(slices.Clone(b), at, at+1))
			for _, c := range []byte{0, 1, 84, 255, b[at]} {
				none(t, slices.Insert(slices.Clone(b), at, c))
			}
		}
	}
}

// turned tells bytes of which those bits are others that a pattern says, from a bit on; of each byte the lowest bit is the first one in the row, as the checksum takes them.
func turned(b []byte, from int, pattern uint32) []byte {
	b = slices.Clone(b)
	for ; pattern != 0; pattern &= pattern - 1 {
		at := from + bits.TrailingZeros32(pattern)
		b[at/8] ^= 1 << (at % 8)
	}
	return b
}

// P12.3: a right datagram of which some bits are turned within 32 in a row, at any place, is none: one bit, each two, all, and any.
func TestTurnedDatagramsAreNone(t *testing.T) {
	r := chance(7)
	for _, payload := range few() {
		b := laid(payload)
		for from := range 8 * len(b) {
			left := min(32, 8*len(b)-from)
			all := uint32(1<<left - 1)
			none(t, turned(b, from, 1))
			none(t, turned(b, from, all))
			for other := 1; other < left; other++ {
				none(t, turned(b, from, 1|1<<other))
			}
			for range 8 {
				none(t, turned(b, from, r.Uint32()&all|1))
			}
		}
	}
}

// P12.3: of datagrams of each size, with bits turned within 32 in a row anywhere, none is one.
func TestTurnedDatagramsOfEachSize(t *testing.T) {
	r := chance(8)
	for size := range most + 1 {
		b := laid(wild(r, size))
		for range 200 {
			from := r.Intn(8 * len(b))
			all := uint32(1<<min(32, 8*len(b)-from) - 1)
			none(t, turned(b, from, r.Uint32()&all|1))
		}
	}
}

// Rule 4: Put changes nothing of the payload that it is handed, nor of its spare room, and does not keep it; nor is that room in the datagram's.
func TestPutLeavesThePayload(t *testing.T) {
	for size := range most + 3 {
		room := rising(size+64, 7)
		was := slices.Clone(room)
		payload := room[:size]
		b, _ := frame.Put(payload)
		if !bytes.Equal(room, was) {
			t.Fatalf("Put of %d bytes changes what it is handed: %v", size, room)
		}
		kept := slices.Clone(b)
		clear(room)
		if !bytes.Equal(b, kept) {
			t.Errorf("%d bytes: the datagram hears of changes of the payload", size)
		}
		copy(room, was)
		scribble(b)
		if !bytes.Equal(room, was) {
			t.Errorf("%d bytes: the payload hears of changes of the datagram", size)
		}
		if size <= most {
			puts(t, payload, laid(payload))
		}
	}
}

// Rule 4: Put's answers share no memory.
func TestDatagramsAreNew(t *testing.T) {
	for _, payload := range edges() {
		first, _ := frame.Put(payload)
		second, _ := frame.Put(payload)
		scribble(first)
		if !bytes.Equal(second, laid(payload)) {
			t.Errorf("datagrams of %v share memory", payload)
		}
		kept := slices.Clone(first)
		scribble(second[len(second):])
		if !bytes.Equal(first, kept) {
			t.Errorf("datagrams of %v share spare room", payload)
		}
		puts(t, payload, laid(payload))
	}
}

// Rule 4: Get changes nothing of the bytes that it is handed, nor of their spare room, and the payload is new memory.
func TestGetLeavesBytes(t *testing.T) {
	for _, want := range edges() {
		whole := laid(want)
		room := slices.Concat(whole, rising(64, 8))
		was := slices.Clone(room)
		for end := range len(whole) + 2 {
			frame.Get(room[:end])
			if !bytes.Equal(room, was) {
				t.Fatalf("Get of %d bytes changes what it is handed: %v", end, room)
			}
		}
		first, _ := frame.Get(room[:len(whole)])
		second, _ := frame.Get(room[:len(whole)])
		clear(room)
		if !bytes.Equal(first, want) || !bytes.Equal(second, want) {
			t.Errorf("the payload %v hears of changes of the bytes", want)
		}
		copy(room, was)
		scribble(first)
		if !bytes.Equal(room, was) || !bytes.Equal(second, want) {
			t.Errorf("the payload %v shares memory", want)
		}
		gets(t, room[:len(whole)], want)
	}
}

// Rule 4: neither the checksum nor what stands behind it is in a payload's spare room, nor what stands behind a payload in a datagram's.
func TestAnswersHaveNothingBehindThem(t *testing.T) {
	for _, want := range edges() {
		room := slices.Concat(laid(want), rising(64, 9))
		got, _ := frame.Get(room[:len(room)-64])
		if behind := got[len(got):cap(got)]; len(bytes.Trim(behind, "\x00")) != 0 {
			t.Errorf("behind the payload %v: %v", want, behind)
		}
		room = slices.Concat(want, rising(64, 10))
		b, _ := frame.Put(room[:len(want)])
		if behind := b[len(b):cap(b)]; len(bytes.Trim(behind, "\x00")) != 0 {
			t.Errorf("behind the datagram of %v: %v", want, behind)
		}
	}
}

// P1: the same is told of the same, however often it is asked, and whoever asks meanwhile.
func TestTheSameOfTheSame(t *testing.T) {
	done := make(chan bool)
	for range 8 {
		go func() {
			defer func() { done <- true }()
			for range 20 {
				for _, payload := range edges() {
					b := laid(payload)
					puts(t, payload, b)
					gets(t, b, payload)
					b[len(b)-1] ^= 1
					faults(t, b, api.ErrCorrupt, 5+len(payload))
				}
				refused(t, make([]byte, most+1))
			}
		}()
	}
	for range 8 {
		<-done
	}
}
