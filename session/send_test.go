package session_test

import (
	"fmt"
	"slices"
	"strings"
	"testing"

	"tandem/api"
	"tandem/session"
)

// P13.2: the datagrams of Send, Ack and Resend, written out byte by byte; the checksums are the library's.
func TestDatagramsByteByByte(t *testing.T) {
	s := made(t, 0x0102030405)
	holds := func(what string, got, carried []byte) {
		t.Helper()
		if !slices.Equal(got, framed(carried)) {
			t.Fatalf("%s = %v, not %v", what, got, framed(carried))
		}
	}
	bare := []byte{
		5, 4, 3, 2, 1, 0, // the boot
		0, 0, 0, 0, 0, 0, // the number
		0, 0, 0, 0, 0, 0, // the other one's boot
		0, 0, 0, 0, 0, 0, // the top
		0, 0, 0, 0, 0, 0, 0, 0, // which came
	}
	b, _ := s.Ack()
	holds("Ack()", b, bare)
	first := slices.Concat(bare, []byte{200, 0, 100})
	first[6] = 1
	b, _ = s.Send([]byte{200, 0, 100})
	holds("Send(200 0 100)", b, first)
	holds("Resend()[0]", s.Resend()[0], first)

	for _, number := range []int{0x0403020100 - 12, 0x0403020100 - 2} {
		tells(t, s, parts{boot: 0x0f0e0d0c0b, number: number, text: "x"}.bytes(), "x")
	}
	tells(t, s, parts{boot: 0x0f0e0d0c0b, number: 0x0403020100, text: "x"}.bytes(), "x")
	heard := []byte{
		0x0b, 0x0c, 0x0d, 0x0e, 0x0f, 0, // the other one's boot
		0, 1, 2, 3, 4, 0, // the top
		2, 8, 0, 0, 0, 0, 0, 0, // which came: the bits 1 and 11
	}
	copy(bare[12:], heard)
	copy(first[12:], heard)
	second := slices.Concat(bare, []byte{9})
	second[6] = 2
	b, _ = s.Ack()
	holds("Ack()", b, bare)
	b, _ = s.Send([]byte{9})
	holds("Send(9)", b, second)
	all := s.Resend()
	if len(all) != 2 {
		t.Fatalf("Resend() = %v", all)
	}
	holds("Resend()[0]", all[0], first)
	holds("Resend()[1]", all[1], second)
}

// P13.2: payloads of each size from none to 160 are sent, longer ones are refused, and are no next one.
func TestSendOfSizes(t *testing.T) {
	r := chance(1)
	s, other := made(t, 1), made(t, 2)
	for size := range most + 1 {
		text := string(wild(r, size))
		b := sends(t, s, parts{boot: 1, number: size + 1, text: text})
		tells(t, other, b, text)
	}
	before := seen(t, s)
	for _, size := range []int{161, 162, 168, 169, 191, 192, 200, 201, 255, 256, 256 + 160, 65536, 65536 + 1} {
		if b, err := s.Send(make([]byte, size)); b != nil || err != api.ErrLong {
			t.Fatalf("Send of %d bytes = %v, %v, not ErrLong", size, b, err)
		}
		if !same(seen(t, s), before) {
			t.Fatalf("Send of %d bytes changes the session", size)
		}
	}
	sends(t, s, parts{boot: 1, number: most + 2, text: "next"})
}

// P13.2: none and nil are payloads, too: numbered, told once, and sent again.
func TestSendOfNoBytes(t *testing.T) {
	for _, none := range [][]byte{nil, {}} {
		s, other := made(t, 1), made(t, 2)
		b, err := s.Send(none)
		want := parts{boot: 1, number: 1}
		if cut(b) != want || err != api.OK {
			t.Fatalf("Send(%v) = %v, %v", none, b, err)
		}
		resends(t, s, want)
		tells(t, other, b, "")
		silent(t, other, b)
		ack, _ := other.Ack()
		silent(t, s, ack)
		resends(t, s)
	}
}

// P13.2: 2^40 payloads are sent; the next one is refused, but as too long if it is, and changes nothing.
func TestSendOfTheLast(t *testing.T) {
	s := made(t, 1)
	session.SetSent(s, last-2)
	sends(t, s, parts{boot: 1, number: last - 1, text: "x"})
	other := made(t, 2)
	tells(t, other, sends(t, s, parts{boot: 1, number: last, text: "y"}), "y")
	acks(t, other, parts{boot: 2, other: 1, top: last})
	before := seen(t, s)
	for range 3 {
		for _, size := range []int{0, 1, most} {
			if b, err := s.Send(make([]byte, size)); b != nil || err != api.ErrFull {
				t.Fatalf("Send of %d bytes = %v, %v, not ErrFull", size, b, err)
			}
		}
		if b, err := s.Send(make([]byte, most+1)); b != nil || err != api.ErrLong {
			t.Fatalf("Send of too many bytes = %v, %v, not ErrLong", b, err)
		}
	}
	if !same(seen(t, s), before) {
		t.Fatal("a Send that is refused changes the session")
	}
	resends(t, s, parts{boot: 1, number: last - 1, text: "x"}, parts{boot: 1, number: last, text: "y"})
	ack, _ := other.Ack()
	silent(t, s, ack)
	resends(t, s, parts{boot: 1, number: last - 1, other: 2, text: "x"})
	if b, err := s.Send(nil); b != nil || err != api.ErrFull {
		t.Fatalf("Send() = %v, %v, not ErrFull", b, err)
	}
}

// P13.2: what is sent is numbered from 1 on, whatever comes meanwhile; the 16 newest wait, and Resend tells them, the oldest first.
func TestTheNewestWait(t *testing.T) {
	s := made(t, 7)
	var all []parts
	for number := 1; number <= 100; number++ {
		p := parts{boot: 7, number: number, text: strings.Repeat(fmt.Sprint(number), number%50)}
		sends(t, s, p)
		all = append(all, p)
		resends(t, s, all[max(0, number-again):]...)
		resends(t, s, all[max(0, number-again):]...)
		acks(t, s, parts{boot: 7})
	}
}

// P13.2: the oldest that waits goes only if there are 17: where some were taken away, older ones wait on.
func TestTheOldestGoesOfSeventeen(t *testing.T) {
	s := made(t, 7)
	sent(t, s, 20)
	silent(t, s, parts{boot: 1, other: 7, top: 18, came: 1<<2 | 1<<7}.bytes())
	want := []int{5, 6, 7, 8, 9, 11, 12, 13, 14, 16, 17, 19, 20}
	for number := 21; number < 60; number++ {
		if got := waits(s); !slices.Equal(got, want) {
			t.Fatalf("there wait %v, not %v", got, want)
		}
		s.Send([]byte("more"))
		want = append(want, number)
		if len(want) > again {
			want = want[1:]
		}
	}
}

// P13.2: what is told of Ack changes nothing, and needs no number.
func TestAcksAreNotNumbered(t *testing.T) {
	s := made(t, 7)
	for number := 1; number < 5; number++ {
		for range 3 {
			acks(t, s, parts{boot: 7})
		}
		sends(t, s, parts{boot: 7, number: number, text: "x"})
	}
	s = busy(t)
	for range 3 {
		acks(t, s, busyAck)
	}
	sends(t, s, busyAck.with(21, "x"))
}

// P13.2: each of Resend's tells what is known of the other one now, not when it was sent.
func TestResendTellsWhatIsKnownNow(t *testing.T) {
	s := made(t, 7)
	p := parts{boot: 7}
	holds := func() {
		t.Helper()
		acks(t, s, p)
		resends(t, s, p.with(1, "first"), p.with(2, ""), p.with(3, "third"))
	}
	for number, text := range []string{"first", "", "third"} {
		sends(t, s, p.with(number+1, text))
	}
	holds()
	silent(t, s, parts{boot: 3}.bytes())
	p.other = 3
	holds()
	tells(t, s, parts{boot: 3, number: 2, text: "x"}.bytes(), "x")
	p.top = 2
	holds()
	tells(t, s, parts{boot: 3, number: 1, text: "x"}.bytes(), "x")
	p.came = 1
	holds()
	tells(t, s, parts{boot: 3, number: 66, text: "x"}.bytes(), "x")
	p.top, p.came = 66, 1<<63
	holds()
	tells(t, s, parts{boot: 3, number: 60, text: "x"}.bytes(), "x")
	p.came |= 1 << 5
	holds()
	silent(t, s, parts{boot: 4}.bytes())
	p.other, p.top, p.came = 4, 0, 0
	holds()
	tells(t, s, parts{boot: last, number: last, text: "x"}.bytes(), "x")
	p.other, p.top = last, last
	holds()
	sends(t, s, p.with(4, "fourth"))
	resends(t, s, p.with(1, "first"), p.with(2, ""), p.with(3, "third"), p.with(4, "fourth"))
}
