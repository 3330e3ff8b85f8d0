package net_test

import (
	"testing"

	"tandem/api"
	"tandem/net"
)

// The chapter's examples.
func TestExamples(t *testing.T) {
	n := net.New()
	sends(t, n, packet{0, 1, "\x07"})
	sends(t, n, packet{1, 2, "\x08"})
	delivers(t, n, 1, packet{1, 2, "\x08"})
	if n.Count() != 1 {
		t.Fatal("Count() =", n.Count())
	}
	doubles(t, n, 0)
	looks(t, n, 1, packet{0, 1, "\x07"})

	n = net.New()
	cuts(t, n, 0, 1, true)
	sends(t, n, packet{0, 1, "\x07"})
	if n.Count() != 0 || n.Lost() != 1 {
		t.Fatal("Count(), Lost() =", n.Count(), n.Lost())
	}
	sends(t, n, packet{1, 0, "\x07"})
	if n.Count() != 1 {
		t.Fatal("Count() =", n.Count())
	}

	n = net.New()
	itself, none := n.Send(0, 0, []byte{7}), n.Send(0, 3, []byte{7})
	_, empty := net.New().Deliver(0)
	long := n.Send(0, 1, make([]byte, 513))
	if itself != api.ErrArg || none != api.ErrArg || empty != api.ErrRange || long != api.ErrLong {
		t.Fatal(itself, none, empty, long)
	}
}

// P14.1: of a new net nothing is on its way, nothing was lost, and no link is cut.
func TestNew(t *testing.T) {
	n := net.New()
	if n == nil {
		t.Fatal("New() = nil")
	}
	holds(t, n, 0)
	holdsCut(t, n, nil)
}

// P14.1: each net has its own; what is done to one is not seen in another one.
func TestEachNetIsItsOwn(t *testing.T) {
	x, y := net.New(), net.New()
	cuts(t, x, 0, 1, true)
	sends(t, x, packet{0, 1, "lost"})
	sends(t, x, packet{1, 0, "sent"})
	holds(t, y, 0)
	holdsCut(t, y, nil)
	sends(t, y, packet{0, 1, "other"})
	holds(t, x, 1, packet{1, 0, "sent"})
	holds(t, y, 0, packet{0, 1, "other"})
	holdsCut(t, x, map[[2]int]bool{{0, 1}: true})
}

// P14.1: Count, Lost and IsCut behind each call of a net to which everything happens.
func TestCountLostAndIsCut(t *testing.T) {
	n := net.New()
	shows := func(what string, count, lost int, cut bool) {
		t.Helper()
		for range 2 {
			if n.Count() != count || n.Lost() != lost || n.IsCut(2, 1) != cut {
				t.Fatalf("%s: Count() = %d, Lost() = %d, IsCut(2, 1) = %v, not %d, %d, %v", what, n.Count(), n.Lost(), n.IsCut(2, 1), count, lost, cut)
			}
		}
	}
	shows("new", 0, 0, false)
	sends(t, n, packet{2, 1, "a"})
	shows("sent", 1, 0, false)
	cuts(t, n, 2, 1, true)
	shows("cut", 1, 0, true)
	sends(t, n, packet{2, 1, "b"})
	shows("sent over the cut link", 1, 1, true)
	doubles(t, n, 0)
	shows("doubled", 2, 1, true)
	looks(t, n, 1, packet{2, 1, "a"})
	shows("looked at", 2, 1, true)
	delivers(t, n, 0, packet{2, 1, "a"})
	shows("delivered", 1, 1, true)
	doubles(t, n, 0)
	drops(t, n, 0)
	shows("doubled and dropped", 1, 2, true)
	cuts(t, n, 2, 1, false)
	shows("mended", 1, 2, false)
	sends(t, n, packet{2, 1, "c"})
	shows("sent over the mended link", 2, 2, false)
	if err := n.Clear(); err != api.OK {
		t.Fatal("Clear() =", err)
	}
	shows("cleared", 0, 4, false)
}
