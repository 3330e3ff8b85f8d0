package net_test

import (
	"bytes"
	"fmt"
	"math"
	"math/rand"
	"testing"

	"tandem/api"
	"tandem/net"
)

// What the document says of nets, in numbers of the tests' own.
const (
	most = 512  // bytes of a datagram
	room = 4096 // datagrams on their way
)

// packet is a datagram; it is compared as a value, so its bytes are a text.
type packet struct {
	from, to int
	text     string
}

// String tells a packet in few words, so that failing output stays small.
func (p packet) String() string {
	return fmt.Sprintf("{%d to %d: %d bytes, %v}", p.from, p.to, len(p.text), []byte(p.text[:min(8, len(p.text))]))
}

// told tells the packet that a call answered.
func told(p api.Packet) packet { return packet{p.From, p.To, string(p.B)} }

// pairs tells the links, and all other pairs of some numbers, from below the least node to above the greatest one.
func pairs() (there, none [][2]int) {
	numbers := []int{math.MinInt, math.MinInt + 1, -1 << 32, -3, -2, -1, 0, 1, 2, 3, 4, 5, 1 << 32, 1<<32 + 1, math.MaxInt - 1, math.MaxInt}
	for _, from := range numbers {
		for _, to := range numbers {
			if from >= 0 && from <= 2 && to >= 0 && to <= 2 && from != to {
				there = append(there, [2]int{from, to})
			} else {
				none = append(none, [2]int{from, to})
			}
		}
	}
	return there, none
}

// outside tells places at which nothing is on its way, when so many are.
func outside(many int) []int {
	return []int{math.MinInt, math.MinInt + 1, -room, -2, -1, many, many + 1, many + room, 1 << 32, math.MaxInt - 1, math.MaxInt}
}

// sends holds that Send takes a datagram.
func sends(t *testing.T, n *net.Net, p packet) {
	t.Helper()
	if err := n.Send(p.from, p.to, []byte(p.text)); err != api.OK {
		t.Fatalf("Send(%d, %d, %d bytes) = %v", p.from, p.to, len(p.text), err)
	}
}

// cuts holds that Cut takes a link.
func cuts(t *testing.T, n *net.Net, from, to int, is bool) {
	t.Helper()
	if err := n.Cut(from, to, is); err != api.OK {
		t.Fatalf("Cut(%d, %d, %v) = %v", from, to, is, err)
	}
}

// looks holds what Look tells of a place.
func looks(t *testing.T, n *net.Net, i int, want packet) {
	t.Helper()
	if got, err := n.Look(i); told(got) != want || err != api.OK {
		t.Fatalf("Look(%d) = %v, %v, not %v", i, told(got), err, want)
	}
}

// delivers holds what Deliver tells of a place.
func delivers(t *testing.T, n *net.Net, i int, want packet) {
	t.Helper()
	if got, err := n.Deliver(i); told(got) != want || err != api.OK {
		t.Fatalf("Deliver(%d) = %v, %v, not %v", i, told(got), err, want)
	}
}

// drops holds that Drop loses the one at a place.
func drops(t *testing.T, n *net.Net, i int) {
	t.Helper()
	if err := n.Drop(i); err != api.OK {
		t.Fatalf("Drop(%d) = %v", i, err)
	}
}

// doubles holds that Double takes the one at a place.
func doubles(t *testing.T, n *net.Net, i int) {
	t.Helper()
	if err := n.Double(i); err != api.OK {
		t.Fatalf("Double(%d) = %v", i, err)
	}
}

// holds holds all that a net lets be seen without a change, but which links are cut.
func holds(t *testing.T, n *net.Net, lost int, way ...packet) {
	t.Helper()
	if n.Count() != len(way) || n.Lost() != lost {
		t.Fatalf("Count() = %d, Lost() = %d, not %d, %d", n.Count(), n.Lost(), len(way), lost)
	}
	for i, p := range way {
		looks(t, n, i, p)
	}
	isNowhere(t, n, len(way))
}

// isNowhere holds that Look finds nothing outside of so many places.
func isNowhere(t *testing.T, n *net.Net, many int) {
	t.Helper()
	for _, i := range outside(many) {
		if got, err := n.Look(i); got.From != 0 || got.To != 0 || got.B != nil || err != api.ErrRange {
			t.Fatalf("%d are on their way: Look(%d) = %v, %v, not ErrRange", many, i, got, err)
		}
	}
}

// holdsCut holds which links are cut.
func holdsCut(t *testing.T, n *net.Net, cut map[[2]int]bool) {
	t.Helper()
	there, none := pairs()
	for _, l := range there {
		if n.IsCut(l[0], l[1]) != cut[l] {
			t.Fatalf("IsCut(%d, %d) = %v, not %v", l[0], l[1], !cut[l], cut[l])
		}
	}
	for _, l := range none {
		if n.IsCut(l[0], l[1]) {
			t.Fatalf("IsCut(%d, %d) = true, and there is no such link", l[0], l[1])
		}
	}
}

// numbered tells so many packets, unlike each other, over all links.
func numbered(many int) []packet {
	there, _ := pairs()
	all := make([]packet, many)
	for i := range all {
		l := there[i%len(there)]
		all[i] = packet{l[0], l[1], string([]byte{byte(i), byte(i >> 8)})}
	}
	return all
}

// carrying tells a net on which these are on their way.
func carrying(t *testing.T, way ...packet) *net.Net {
	t.Helper()
	n := net.New()
	for _, p := range way {
		sends(t, n, p)
	}
	return n
}

// chance tells a source of numbers without a pattern, the same in every run.
func chance(seed int64) *rand.Rand { return rand.New(rand.NewSource(seed)) }

// wild tells bytes without a pattern, so many.
func wild(r *rand.Rand, size int) []byte {
	b := make([]byte, size)
	r.Read(b)
	return b
}

// scribble writes over bytes and their spare room.
func scribble(b []byte) {
	b = b[:cap(b)]
	for i := range b {
		b[i] = 0xee
	}
}

// isBlank tells whether nothing stands in the spare room of bytes.
func isBlank(b []byte) bool { return len(bytes.Trim(b[len(b):cap(b)], "\x00")) == 0 }
