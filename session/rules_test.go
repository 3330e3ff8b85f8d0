package session_test

import (
	"bytes"
	"slices"
	"testing"

	"tandem/api"
	"tandem/session"
)

// Rule 4: Send changes nothing of what it is handed, nor of its spare room, and does not keep it; its answer shares nothing with it.
func TestSendLeavesThePayload(t *testing.T) {
	r := chance(6)
	for size := range most + 3 {
		s := made(t, 1)
		room := wild(r, size+300)
		was := slices.Clone(room)
		first, err := s.Send(room[:size])
		if !bytes.Equal(room, was) {
			t.Fatalf("Send of %d bytes changes what it is handed", size)
		}
		if err != api.OK {
			continue
		}
		want := parts{boot: 1, number: 1, text: string(was[:size])}
		scribble(room)
		if !bytes.Equal(first, want.bytes()) {
			t.Fatalf("%d bytes: the datagram hears of changes of the payload", size)
		}
		resends(t, s, want)
		copy(room, was)
		scribble(first)
		if !bytes.Equal(room, was) {
			t.Fatalf("%d bytes: the payload hears of changes of the datagram", size)
		}
		resends(t, s, want)
	}
}

// Rule 4: Receive changes nothing of what it is handed, nor of its spare room, and does not keep it; what it tells shares nothing with it.
func TestReceiveLeavesBytes(t *testing.T) {
	r := chance(7)
	for size := range most + 1 {
		text := wild(r, size)
		p := parts{boot: 3, number: 1 + size, text: string(text)}
		whole := p.bytes()
		room := slices.Concat(whole, wild(r, 300))
		was := slices.Clone(room)
		s := made(t, 1)
		for end := range len(whole) + 2 {
			if end != len(whole) {
				s.Receive(room[:end])
			}
		}
		got, told, err := s.Receive(room[:len(whole)])
		if !bytes.Equal(room, was) {
			t.Fatalf("Receive of %d bytes changes what it is handed", size)
		}
		if behind := got[len(got):cap(got)]; len(bytes.Trim(behind, "\x00")) != 0 {
			t.Fatalf("behind the payload %v: %v", got, behind)
		}
		scribble(room)
		if !bytes.Equal(got, text) || !told || err != api.OK {
			t.Fatalf("the payload hears of changes of the bytes: %v, not %v", got, text)
		}
		copy(room, was)
		scribble(got)
		if !bytes.Equal(room, was) {
			t.Fatal("the bytes hear of changes of the payload")
		}
		acks(t, s, parts{boot: 1, other: 3, top: 1 + size})
		silent(t, s, room[:len(whole)])
	}
}

// Rule 4: what is told shares no memory with what the session keeps, nor with other answers, their spare room too: all is written over, and goes on as it was.
func TestAnswersAreNew(t *testing.T) {
	s := busy(t)
	before := seen(t, s)
	kept := s.Resend()
	was := make([][]byte, len(kept))
	for i, b := range kept {
		was[i] = slices.Clone(b)
	}
	for range 3 {
		for i, b := range kept {
			other := s.Resend()[i]
			if !bytes.Equal(b, was[i]) || !bytes.Equal(other, b) {
				t.Fatalf("a datagram of Resend's at %d hears of changes of another one", i)
			}
			scribble(other)
		}
		ack, _ := s.Ack()
		second, _ := s.Ack()
		scribble(ack)
		if !bytes.Equal(second, busyAck.bytes()) {
			t.Fatal("datagrams of Ack's share memory")
		}
		scribble(second)
		list := s.Resend()
		list = list[:cap(list)]
		clear(list)
		if !same(seen(t, s), before) {
			t.Fatal("the session hears of changes of what was told")
		}
	}
	for i, b := range kept {
		scribble(b)
		for j := i + 1; j < len(kept); j++ {
			if !bytes.Equal(kept[j], was[j]) {
				t.Fatalf("datagrams of one Resend, at %d and %d, share memory", i, j)
			}
		}
	}
	if !same(seen(t, s), before) {
		t.Fatal("the session hears of changes of what was told")
	}
	first, _, _ := s.Receive(parts{boot: 3, number: 73, text: "first"}.bytes())
	then, _, _ := s.Receive(parts{boot: 3, number: 74, text: "then"}.bytes())
	scribble(first)
	if string(then) != "then" {
		t.Fatal("payloads that were told share memory")
	}
	scribble(then)
	sends(t, s, parts{boot: 5, number: 21, other: 3, top: 74, came: 1 | 2 | 1<<3, text: "next"})
}

// Rule 5: methods of a session that is nil, or that New did not make, answer ErrNil, and zero values else, ahead of all other errors.
func TestSessionsThatNobodyMade(t *testing.T) {
	copied := *busy(t)
	another := *made(t, 1)
	moved := made(t, 2)
	*moved = another
	for what, s := range map[string]*session.Session{"nil": nil, "zero": {}, "new": new(session.Session), "copied": &copied, "copied over another one": moved} {
		for range 2 {
			for _, size := range []int{0, 1, most, most + 1} {
				if b, err := s.Send(make([]byte, size)); b != nil || err != api.ErrNil {
					t.Fatalf("%s: Send of %d bytes = %v, %v", what, size, b, err)
				}
			}
			if b, err := s.Ack(); b != nil || err != api.ErrNil {
				t.Fatalf("%s: Ack() = %v, %v", what, b, err)
			}
			if all := s.Resend(); len(all) != 0 {
				t.Fatalf("%s: Resend() = %v", what, all)
			}
			for _, b := range [][]byte{nil, {1}, said().bytes(), parts{}.bytes(), parts{boot: 9}.bytes(), framed(nil)} {
				if got, told, err := s.Receive(b); got != nil || told || err != api.ErrNil {
					t.Fatalf("%s: Receive(%v) = %v, %v, %v", what, b, got, told, err)
				}
			}
			if s.Boot() != 0 || s.Other() != 0 || s.Waiting() != 0 {
				t.Fatalf("%s: Boot() = %d, Other() = %d, Waiting() = %d", what, s.Boot(), s.Other(), s.Waiting())
			}
		}
	}
}

// Rule 5: a session goes on as it was though a copy of it was asked.
func TestACopyLeavesTheSession(t *testing.T) {
	s := busy(t)
	before := seen(t, s)
	copied := *s
	copied.Send([]byte("x"))
	copied.Receive(said().bytes())
	if !same(seen(t, s), before) {
		t.Fatal("the session hears of what is done to a copy")
	}
	sends(t, s, busyAck.with(21, "next"))
}

// P1: the same is told of the same calls, whoever else has sessions meanwhile.
func TestTheSameOfTheSame(t *testing.T) {
	for range 8 {
		t.Run("", func(t *testing.T) {
			t.Parallel()
			for range 20 {
				a, b := made(t, 1), made(t, 2)
				for number := 1; number <= 30; number++ {
					x := sends(t, a, parts{boot: 1, number: number, text: "x"})
					tells(t, b, x, "x")
				}
				acks(t, b, parts{boot: 2, other: 1, top: 30, came: 1<<29 - 1})
			}
		})
	}
}
