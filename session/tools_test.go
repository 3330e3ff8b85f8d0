package session_test

import (
	"bytes"
	"encoding/binary"
	"hash/crc32"
	"math/rand"
	"slices"
	"testing"

	"tandem/api"
	"tandem/session"
)

// What the document says of sessions, in numbers of the tests' own.
const (
	most   = 160     // bytes of a payload
	again  = 16      // payloads that wait
	head   = 32      // bytes ahead of a payload
	last   = 1 << 40 // the greatest number
	beyond = 1<<48 - 1
)

// parts is what a datagram carries; it is compared as a value, so its payload is a text.
type parts struct {
	boot, number int
	other, top   int
	came         uint64
	text         string
}

// six tells the six bytes of a number.
func six(n int) []byte { return binary.LittleEndian.AppendUint64(nil, uint64(n))[:6] }

// sealed tells bytes and their checksum behind them, by the library, so that it leans on none of what it is held against.
func sealed(b []byte) []byte {
	return binary.LittleEndian.AppendUint32(slices.Clone(b), crc32.ChecksumIEEE(b))
}

// framed tells the datagram of any bytes.
func framed(carried []byte) []byte {
	return sealed(slices.Concat([]byte{84, 68, 1, byte(len(carried)), byte(len(carried) >> 8)}, carried))
}

// carried tells the bytes that a datagram of these parts carries.
func (p parts) carried() []byte {
	return slices.Concat(six(p.boot), six(p.number), six(p.other), six(p.top), binary.LittleEndian.AppendUint64(nil, p.came), []byte(p.text))
}

// bytes tells the datagram of these parts.
func (p parts) bytes() []byte { return framed(p.carried()) }

// cut tells the parts of a datagram that is right.
func cut(b []byte) parts {
	number := func(at int) int { return int(binary.LittleEndian.Uint64(append(slices.Clone(b[at:at+6]), 0, 0))) }
	return parts{number(5), number(11), number(17), number(23), binary.LittleEndian.Uint64(b[29:37]), string(b[37 : len(b)-4])}
}

// made tells a session of a boot.
func made(t *testing.T, boot int) *session.Session {
	t.Helper()
	s, err := session.New(boot)
	if s == nil || err != api.OK {
		t.Fatalf("New(%d) = %v, %v", boot, s, err)
	}
	return s
}

// sends holds the datagram that Send tells of a text against what is asked for, and tells it.
func sends(t *testing.T, s *session.Session, want parts) []byte {
	t.Helper()
	b, err := s.Send([]byte(want.text))
	if !bytes.Equal(b, want.bytes()) || err != api.OK {
		t.Fatalf("Send(%q) = %v, %v, not %v, of %+v", want.text, b, err, want.bytes(), want)
	}
	return b
}

// sent has a session send so many payloads, each of them its number and a byte more, and tells the datagrams.
func sent(t *testing.T, s *session.Session, many int) [][]byte {
	t.Helper()
	var all [][]byte
	for i := range many {
		b, err := s.Send([]byte{byte(i + 1), 77})
		if err != api.OK {
			t.Fatalf("Send: %v", err)
		}
		all = append(all, b)
	}
	return all
}

// acks holds the datagram that Ack tells against what is asked for.
func acks(t *testing.T, s *session.Session, want parts) {
	t.Helper()
	if b, err := s.Ack(); !bytes.Equal(b, want.bytes()) || err != api.OK {
		t.Fatalf("Ack() = %v, %v, not %v, of %+v", b, err, want.bytes(), want)
	}
}

// resends holds the datagrams that Resend tells against those that are asked for, and Waiting against how many they are.
func resends(t *testing.T, s *session.Session, want ...parts) {
	t.Helper()
	got := s.Resend()
	if len(got) != len(want) || s.Waiting() != len(want) {
		t.Fatalf("Resend() = %d datagrams, Waiting() = %d, not %d", len(got), s.Waiting(), len(want))
		return
	}
	for i, w := range want {
		if !bytes.Equal(got[i], w.bytes()) {
			t.Fatalf("Resend() tells at %d %v, not %v, of %+v", i, got[i], w.bytes(), w)
		}
	}
}

// waits tells the numbers of those that wait.
func waits(s *session.Session) []int {
	var all []int
	for _, b := range s.Resend() {
		all = append(all, cut(b).number)
	}
	return all
}

// tells holds that Receive tells this payload of a datagram.
func tells(t *testing.T, s *session.Session, b []byte, want string) {
	t.Helper()
	if got, told, err := s.Receive(b); string(got) != want || !told || err != api.OK {
		t.Fatalf("Receive(%v) = %v, %v, %v, not %v", b, got, told, err, []byte(want))
	}
}

// silent holds that Receive takes a datagram, and tells nothing.
func silent(t *testing.T, s *session.Session, b []byte) {
	t.Helper()
	if got, told, err := s.Receive(b); got != nil || told || err != api.OK {
		t.Fatalf("Receive(%v) = %v, %v, %v, not false", b, got, told, err)
	}
}

// refuses holds that Receive answers an error of some bytes.
func refuses(t *testing.T, s *session.Session, b []byte, want api.Errno) {
	t.Helper()
	if got, told, err := s.Receive(b); got != nil || told || err != want {
		t.Fatalf("Receive(%v) = %v, %v, %v, not %v", b, got, told, err, want)
	}
}

// shown is all that a session lets be seen without a change.
type shown struct {
	boot, other, waiting int
	ack                  parts
	resent               []parts
}

// seen tells what a session lets be seen.
func seen(t *testing.T, s *session.Session) shown {
	t.Helper()
	b, err := s.Ack()
	if err != api.OK {
		t.Fatalf("Ack: %v", err)
	}
	all := shown{boot: s.Boot(), other: s.Other(), waiting: s.Waiting(), ack: cut(b)}
	for _, b := range s.Resend() {
		all.resent = append(all.resent, cut(b))
	}
	return all
}

// same tells whether two sessions, or one at two times, let the same be seen.
func same(x, y shown) bool {
	return x.boot == y.boot && x.other == y.other && x.waiting == y.waiting && x.ack == y.ack && slices.Equal(x.resent, y.resent)
}

// busy tells a session of the boot 5 to which much happened: of 20 payloads that it sent 5 to 19 wait, but 7; of the other one's boot 3 the numbers 1, 8, 70 and 72 came.
func busy(t *testing.T) *session.Session {
	t.Helper()
	s := made(t, 5)
	sent(t, s, 20)
	for _, number := range []int{1, 8, 70} {
		tells(t, s, parts{boot: 3, number: number, text: "abc"}.bytes(), "abc")
	}
	tells(t, s, parts{boot: 3, number: 72, other: 5, top: 20, came: 1 << 12, text: "abcd"}.bytes(), "abcd")
	return s
}

// busyAck is what a busy session's Ack carries.
var busyAck = parts{boot: 5, other: 3, top: 72, came: 1<<(71-70) | 1<<(71-8)}

// with tells parts that have a number and a text, else as they are.
func (p parts) with(number int, text string) parts {
	p.number, p.text = number, text
	return p
}

// chance tells a source of numbers without a pattern, the same in every run.
func chance(seed int64) *rand.Rand { return rand.New(rand.NewSource(seed)) }

// wild tells bytes without a pattern, so many.
func wild(r *rand.Rand, size int) []byte {
	b := make([]byte, size)
	r.Read(b)
	return b
}

// scribble writes over bytes and their spare room.
func scribble(b []byte) {
	b = b[:cap(b)]
	for i := range b {
		b[i] = 0xee
	}
}
