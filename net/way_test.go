package net_test

import (
	"slices"
	"testing"

	"tandem/api"
	"tandem/net"
)

// P14.3: Look, Deliver, Drop and Double of a place at which nothing is: ErrRange, and nothing is changed; Double's ErrRange is ahead of ErrFull.
func TestPlacesOutside(t *testing.T) {
	for _, many := range []int{0, 1, 2, 17, room - 1, room} {
		way := numbered(many)
		n := carrying(t, way...)
		for _, i := range outside(many) {
			got, err := n.Deliver(i)
			if got.From != 0 || got.To != 0 || got.B != nil || err != api.ErrRange {
				t.Fatalf("%d are on their way: Deliver(%d) = %v, %v, not ErrRange", many, i, got, err)
			}
			if drop, double := n.Drop(i), n.Double(i); drop != api.ErrRange || double != api.ErrRange {
				t.Fatalf("%d are on their way: Drop(%d) = %v, Double(%d) = %v, not ErrRange", many, i, drop, i, double)
			}
		}
		holds(t, n, 0, way...)
	}
}

// P14.3: Look tells the one at each place, how often soever, and changes nothing.
func TestLook(t *testing.T) {
	way := numbered(200)
	n := carrying(t, way...)
	for range 3 {
		for i := len(way) - 1; i >= 0; i-- {
			looks(t, n, i, way[i])
			looks(t, n, i, way[i])
		}
	}
	holds(t, n, 0, way...)
}

// P14.3: Deliver tells the one at any place, which is no longer on its way; the others stay in their order; none is lost.
func TestDeliverOfEachPlace(t *testing.T) {
	for many := 1; many <= 12; many++ {
		for i := range many {
			way := numbered(many)
			n := carrying(t, way...)
			delivers(t, n, i, way[i])
			holds(t, n, 0, slices.Delete(way, i, i+1)...)
		}
	}
}

// P14.3: Drop loses the one at any place; the others stay in their order.
func TestDropOfEachPlace(t *testing.T) {
	for many := 1; many <= 12; many++ {
		for i := range many {
			way := numbered(many)
			n := carrying(t, way...)
			drops(t, n, i)
			holds(t, n, 1, slices.Delete(way, i, i+1)...)
		}
	}
}

// P14.3: Double lets the one at any place be there once more, behind all others; none is lost.
func TestDoubleOfEachPlace(t *testing.T) {
	for many := 1; many <= 12; many++ {
		for i := range many {
			way := numbered(many)
			n := carrying(t, way...)
			doubles(t, n, i)
			holds(t, n, 0, append(way, way[i])...)
		}
	}
}

// P14.3: what was doubled, and the one that it was doubled from, go each their own way; what was doubled is doubled again.
func TestDoubledGoTheirOwnWay(t *testing.T) {
	a, b := packet{0, 2, "first"}, packet{1, 0, "second"}
	n := carrying(t, a, b)
	doubles(t, n, 0)
	delivers(t, n, 0, a)
	holds(t, n, 0, b, a)
	delivers(t, n, 1, a)
	holds(t, n, 0, b)

	n = carrying(t, a, b)
	doubles(t, n, 0)
	drops(t, n, 2)
	holds(t, n, 1, a, b)
	doubles(t, n, 0)
	drops(t, n, 0)
	holds(t, n, 2, b, a)

	n = carrying(t, a, b)
	doubles(t, n, 0)
	doubles(t, n, 2)
	doubles(t, n, 1)
	holds(t, n, 0, a, b, a, a, b)
}

// P14.3: Double: ErrFull, if 4,096 are on their way, and nothing is changed; else there is room.
func TestDoubleWithoutRoom(t *testing.T) {
	way := numbered(room - 1)
	n := carrying(t, way...)
	doubles(t, n, room-2)
	way = append(way, way[room-2])
	holds(t, n, 0, way...)
	for _, i := range []int{0, 1, 2000, room - 2, room - 1} {
		if err := n.Double(i); err != api.ErrFull {
			t.Fatalf("%d are on their way: Double(%d) = %v, not ErrFull", room, i, err)
		}
	}
	holds(t, n, 0, way...)
	drops(t, n, 3)
	doubles(t, n, 0)
	holds(t, n, 1, append(slices.Delete(way, 3, 4), way[0])...)
}

// P14.3: when 4,096 are on their way each is delivered, or dropped, from the first, from the last, and from one in the middle.
func TestFullAndEmptiedAgain(t *testing.T) {
	way := numbered(room)
	n := carrying(t, way...)
	lost := 0
	for len(way) > 0 {
		for _, i := range []int{0, len(way) - 1, len(way) / 2} {
			if i >= len(way) {
				continue
			}
			if len(way)%2 == 0 {
				delivers(t, n, i, way[i])
			} else {
				drops(t, n, i)
				lost++
			}
			way = slices.Delete(way, i, i+1)
		}
		if n.Count() != len(way) || n.Lost() != lost {
			t.Fatalf("Count() = %d, Lost() = %d, not %d, %d", n.Count(), n.Lost(), len(way), lost)
		}
	}
	holds(t, n, lost)
	sends(t, n, packet{2, 0, "again"})
	holds(t, n, lost, packet{2, 0, "again"})
}

// P14.3: Clear loses all, of how many soever; the net goes on, and its links stay as they were.
func TestClear(t *testing.T) {
	for _, many := range []int{0, 1, 2, 100, room - 1, room} {
		n := carrying(t, numbered(many)...)
		cuts(t, n, 1, 2, true)
		clears(t, n)
		holds(t, n, many)
		clears(t, n)
		holds(t, n, many)
		holdsCut(t, n, map[[2]int]bool{{1, 2}: true})
		sends(t, n, packet{0, 2, "behind"})
		doubles(t, n, 0)
		drops(t, n, 0)
		sends(t, n, packet{1, 2, "cut"})
		holds(t, n, many+2, packet{0, 2, "behind"})
		clears(t, n)
		holds(t, n, many+3)
	}
}

// clears holds that Clear answers OK.
func clears(t *testing.T, n *net.Net) {
	t.Helper()
	if err := n.Clear(); err != api.OK {
		t.Fatal("Clear() =", err)
	}
}
