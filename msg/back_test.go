package msg_test

import (
	"bytes"
	"slices"
	"testing"

	"tandem/api"
	"tandem/msg"
)

// thereAndBack holds what Get tells of what Put tells against the message, and what Put tells of that against the bytes.
func thereAndBack(t *testing.T, m api.Msg) []byte {
	t.Helper()
	b, err := msg.Put(m)
	if err != api.OK {
		t.Errorf("Put(%s): %v", show(m), err)
		return nil
	}
	gets(t, b, m)
	backAndThere(t, b)
	return b
}

// backAndThere holds what Put tells of what Get tells, if that is a message, against the bytes; it tells whether it was one.
func backAndThere(t *testing.T, b []byte) bool {
	t.Helper()
	m, fault := msg.Get(b)
	if fault.Err != api.OK {
		return false
	}
	puts(t, m, b)
	return true
}

// P11.3: each message that may be, put and got, is the same.
func TestWhatIsPutIsGot(t *testing.T) {
	for _, kind := range kinds() {
		for _, m := range edges(kind) {
			thereAndBack(t, m)
		}
	}
	r := chance(3)
	for range 5000 {
		for _, kind := range kinds() {
			thereAndBack(t, wild(r, kind))
		}
	}
}

// P11.3: what is got is put as the same bytes: of bytes without a pattern, and of messages' with each byte changed.
func TestWhatIsGotIsPutAsTheSameBytes(t *testing.T) {
	right := 0
	for _, kind := range kinds() {
		for _, m := range []api.Msg{ordinary(kind), least(kind), greatest(kind)} {
			b := laid(m)
			for at := range b {
				was := b[at]
				for c := range 256 {
					b[at] = byte(c)
					if backAndThere(t, b) {
						right++
					}
				}
				b[at] = was
			}
		}
	}
	if right < 10000 {
		t.Error("messages among bytes of which one was changed:", right)
	}
	r := chance(4)
	right = 0
	for range 20000 {
		kind := 1 + r.Intn(11)
		b := make([]byte, len(laid(least(kind))))
		r.Read(b)
		b[0], b[1] = byte(kind), byte(r.Intn(3))
		for _, p := range layouts[kind] {
			switch at := where(kind, p); sizes[p] {
			case 6:
				b[at+5] = 0
			case 1:
				b[at] &= 3
			}
		}
		if backAndThere(t, b) {
			right++
		}
	}
	if right < 10000 {
		t.Error("messages among bytes without a pattern:", right)
	}
}

// P11.3: a message's bytes that are cut short are none, nor with one more; nor are they another message's.
func TestBytesOfAnotherLengthAreNone(t *testing.T) {
	r := chance(5)
	for _, kind := range kinds() {
		for _, m := range append(edges(kind), wild(r, kind), wild(r, kind)) {
			b := thereAndBack(t, m)
			for end := range b {
				if got, fault := msg.Get(b[:end]); fault.Err == api.OK || !same(got, api.Msg{}) {
					t.Errorf("Get(%v) = %s, %v", b[:end], show(got), fault)
				}
			}
			for _, c := range []byte{0, 1, 255} {
				more := append(slices.Clone(b), c)
				if got, fault := msg.Get(more); fault.Err == api.OK || !same(got, api.Msg{}) {
					t.Errorf("Get(%v) = %s, %v", more, show(got), fault)
				}
			}
		}
	}
}

// P11.3: unlike messages have unlike bytes.
func TestUnlikeMessagesHaveUnlikeBytes(t *testing.T) {
	seen := map[string]api.Msg{}
	for _, kind := range kinds() {
		for _, m := range edges(kind) {
			b, _ := msg.Put(m)
			if was, there := seen[string(b)]; there && !same(was, m) {
				t.Errorf("%s and %s have the bytes %v", show(was), show(m), b)
			}
			seen[string(b)] = m
		}
	}
}

// Rule 4: Put changes nothing of the Data that it is handed, nor of its spare room, and does not keep it.
func TestPutLeavesData(t *testing.T) {
	for _, kind := range kinds() {
		m := ordinary(kind)
		room := append(filled(1), filled(2)...)
		was := slices.Clone(room)
		m.Data = room[:0]
		if has(kind, "Data") {
			m.Data = room[:32]
		}
		b, err := msg.Put(m)
		if err != api.OK || !bytes.Equal(room, was) {
			t.Errorf("Put(%s): %v; the room: %v", show(m), err, room)
		}
		kept := slices.Clone(b)
		clear(room)
		if !bytes.Equal(b, kept) {
			t.Errorf("kind %d: the bytes hear of changes of the Data", kind)
		}
		copy(room, was)
		scribble(b)
		if !bytes.Equal(room, was) {
			t.Errorf("kind %d: the Data hears of changes of the bytes", kind)
		}
		m.Data = append(m.Data, 9)
		room[len(m.Data)-1] = was[len(m.Data)-1]
		if err := msg.Check(m); err != api.ErrArg || !bytes.Equal(room, was) {
			t.Errorf("Check(%s): %v; the room: %v", show(m), err, room)
		}
	}
}

// scribble writes over bytes and their spare room.
func scribble(b []byte) {
	b = b[:cap(b)]
	for i := range b {
		b[i] = 0xee
	}
}

// Rule 4: Put's answers share no memory.
func TestBytesAreNew(t *testing.T) {
	for _, kind := range kinds() {
		m := ordinary(kind)
		first, _ := msg.Put(m)
		second, _ := msg.Put(m)
		scribble(first)
		if !bytes.Equal(second, laid(m)) || bytes.Contains(second[:cap(second)], []byte{0xee}) {
			t.Errorf("kind %d: bytes share memory", kind)
		}
		puts(t, m, laid(m))
	}
}

// Rule 4: Get changes nothing of the bytes that it is handed, nor of their spare room, and its Data is new memory, its spare room too.
func TestGetLeavesBytes(t *testing.T) {
	for _, kind := range kinds() {
		want := ordinary(kind)
		whole := len(laid(want))
		room := slices.Concat(laid(want), filled(3), filled(4))
		was := slices.Clone(room)
		for end := range whole + 2 {
			msg.Get(room[:end])
			if !bytes.Equal(room, was) {
				t.Fatalf("kind %d: Get of %d bytes changes what it is handed: %v", kind, end, room)
			}
		}
		first, _ := msg.Get(room[:whole])
		second, _ := msg.Get(room[:whole])
		clear(room)
		if !same(first, want) || !same(second, want) {
			t.Errorf("kind %d: the message hears of changes of the bytes", kind)
		}
		copy(room, was)
		scribble(first.Data)
		if !bytes.Equal(room, was) || !same(second, want) || bytes.Contains(second.Data[:cap(second.Data)], []byte{0xee}) {
			t.Errorf("kind %d: the Data shares memory", kind)
		}
		gets(t, room[:whole], want)
	}
}

// Rule 4: what stands in the spare room of bytes is not in that of the Data.
func TestDataHasNothingBehindIt(t *testing.T) {
	m := ordinary(api.MsgWrite)
	b := append(laid(m), bytes.Repeat([]byte{0xdd}, 64)...)
	got, fault := msg.Get(b[:len(b)-64])
	if fault.Err != api.OK || bytes.Contains(got.Data[:cap(got.Data)], []byte{0xdd}) {
		t.Errorf("the Data's room: %v, %v", got.Data[:cap(got.Data)], fault)
	}
}

// P1: the same is told of the same, however often it is asked, and whoever asks meanwhile.
func TestTheSameOfTheSame(t *testing.T) {
	done := make(chan bool)
	for range 8 {
		go func() {
			defer func() { done <- true }()
			for range 50 {
				for _, kind := range kinds() {
					m := ordinary(kind)
					puts(t, m, laid(m))
					gets(t, laid(m), m)
					refused(t, api.Msg{Kind: kind, From: 3})
					faults(t, []byte{byte(kind), 3}, api.ErrRange, 1)
				}
			}
		}()
	}
	for range 8 {
		<-done
	}
}
