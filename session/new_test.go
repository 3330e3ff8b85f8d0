package session_test

import (
	"testing"

	"tandem/api"
	"tandem/session"
)

// The chapter's examples.
func TestExamples(t *testing.T) {
	a, b := made(t, 1), made(t, 2)
	seven, _ := a.Send([]byte{7})
	tells(t, b, seven, "\x07")
	silent(t, b, seven)
	if a.Waiting() != 1 {
		t.Fatal("Waiting() =", a.Waiting())
	}
	ack, _ := b.Ack()
	silent(t, a, ack)
	if a.Waiting() != 0 {
		t.Fatal("Waiting() =", a.Waiting())
	}

	a, b = made(t, 1), made(t, 2)
	var three [3][]byte
	for i := range three {
		three[i], _ = a.Send([]byte{byte(i + 1)})
	}
	tells(t, b, three[2], "\x03")
	tells(t, b, three[0], "\x01")
	silent(t, b, three[2])

	if s, err := session.New(0); s != nil || err != api.ErrRange {
		t.Fatal("New(0) =", s, err)
	}
	if got, err := a.Send(make([]byte, 161)); got != nil || err != api.ErrLong {
		t.Fatal("Send of 161 bytes =", got, err)
	}
	refuses(t, a, nil, api.ErrBytes)
}

// P13.1: boots from 1 to 2^40 have sessions, others have none.
func TestNew(t *testing.T) {
	for _, boot := range []int{1, 2, 255, 256, 1 << 32, last - 1, last} {
		s := made(t, boot)
		if s.Boot() != boot || s.Other() != 0 || s.Waiting() != 0 {
			t.Fatalf("of New(%d): Boot() = %d, Other() = %d, Waiting() = %d", boot, s.Boot(), s.Other(), s.Waiting())
		}
		acks(t, s, parts{boot: boot})
		resends(t, s)
		sends(t, s, parts{boot: boot, number: 1, text: "x"})
	}
	for _, boot := range []int{0, -1, -2, -last, -1 << 63, last + 1, last + 2, 1 << 41, beyond, 1 << 62, 1<<63 - 1} {
		if s, err := session.New(boot); s != nil || err != api.ErrRange {
			t.Fatalf("New(%d) = %v, %v, not none, ErrRange", boot, s, err)
		}
	}
}

// P13.1: Boot stays what it was made with; Other is the greatest boot that came; Waiting is how many wait.
func TestBootOtherWaiting(t *testing.T) {
	s := made(t, 5)
	holds := func(other, waiting int) {
		t.Helper()
		if s.Boot() != 5 || s.Other() != other || s.Waiting() != waiting {
			t.Fatalf("Boot() = %d, Other() = %d, Waiting() = %d, not 5, %d, %d", s.Boot(), s.Other(), s.Waiting(), other, waiting)
		}
	}
	holds(0, 0)
	s.Send(nil)
	holds(0, 1)
	s.Ack()
	s.Resend()
	s.Send(make([]byte, most+1))
	s.Receive([]byte{1, 2, 3})
	holds(0, 1)
	silent(t, s, parts{boot: 9}.bytes())
	holds(9, 1)
	tells(t, s, parts{boot: 9, number: 1, text: "a"}.bytes(), "a")
	holds(9, 1)
	silent(t, s, parts{boot: 8, number: 2, text: "a"}.bytes())
	holds(9, 1)
	refuses(t, s, parts{boot: last + 1}.bytes(), api.ErrRange)
	holds(9, 1)
	for sent := 2; sent <= 40; sent++ {
		s.Send([]byte("more"))
		holds(9, min(sent, again))
	}
	silent(t, s, parts{boot: 9, other: 5, top: 30, came: 1<<5 - 1}.bytes())
	holds(9, 10)
	tells(t, s, parts{boot: last, number: last, other: 5, top: 40}.bytes(), "")
	holds(last, 9)
	silent(t, s, parts{boot: last - 1, other: 5, top: 40, came: 1<<64 - 1}.bytes())
	holds(last, 0)
}

// P13.1: sessions do not hear of each other, though their boots are alike.
func TestSessionsAreApart(t *testing.T) {
	x, y := made(t, 1), made(t, 1)
	sends(t, x, parts{boot: 1, number: 1, text: "x"})
	tells(t, x, parts{boot: 3, number: 4, text: "abc"}.bytes(), "abc")
	acks(t, y, parts{boot: 1})
	resends(t, y)
	sends(t, y, parts{boot: 1, number: 1, text: "y"})
	resends(t, x, parts{boot: 1, number: 1, other: 3, top: 4, text: "x"})
	tells(t, y, parts{boot: 3, number: 4, other: 1, top: 1, text: "abc"}.bytes(), "abc")
	resends(t, y)
	resends(t, x, parts{boot: 1, number: 1, other: 3, top: 4, text: "x"})
}
