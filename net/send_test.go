package net_test

import (
	"math"
	"strings"
	"testing"

	"tandem/api"
	"tandem/net"
)

// refusesSend holds that Send answers an error, and that nothing is on its way, or lost, by that.
func refusesSend(t *testing.T, n *net.Net, from, to, size int, want api.Errno) {
	t.Helper()
	count, lost := n.Count(), n.Lost()
	if err := n.Send(from, to, make([]byte, size)); err != want {
		t.Fatalf("Send(%d, %d, %d bytes) = %v, not %v", from, to, size, err, want)
	}
	if n.Count() != count || n.Lost() != lost {
		t.Fatalf("Send(%d, %d, %d bytes) = %v: Count() = %d, Lost() = %d, not %d, %d", from, to, size, want, n.Count(), n.Lost(), count, lost)
	}
}

// P14.2: what is sent over each link is on its way, behind all others, as it was sent.
func TestSendOverEachLink(t *testing.T) {
	there, _ := pairs()
	if len(there) != 6 {
		t.Fatal("links:", there)
	}
	n := net.New()
	var way []packet
	for _, text := range []string{"a", "b"} {
		for _, l := range there {
			p := packet{l[0], l[1], text}
			sends(t, n, p)
			way = append(way, p)
			holds(t, n, 0, way...)
		}
	}
}

// P14.2: a datagram has from 0 to 512 bytes; ErrLong, if it has more.
func TestSendOfEachSize(t *testing.T) {
	r := chance(1)
	n := net.New()
	var way []packet
	for size := range most + 1 {
		p := packet{1, 2, string(wild(r, size))}
		sends(t, n, p)
		way = append(way, p)
	}
	if err := n.Send(1, 2, nil); err != api.OK {
		t.Fatal("Send(1, 2, nil) =", err)
	}
	way = append(way, packet{1, 2, ""})
	for _, size := range []int{most + 1, most + 2, 2 * most, 1 << 16, 1<<16 + 1} {
		refusesSend(t, n, 1, 2, size, api.ErrLong)
	}
	holds(t, n, 0, way...)
}

// P14.2: ErrArg, if there is no such link; ahead of ErrLong.
func TestSendOverNoLink(t *testing.T) {
	n := carrying(t, packet{0, 1, "a"})
	_, none := pairs()
	for _, l := range none {
		for _, size := range []int{0, 1, most, most + 1} {
			refusesSend(t, n, l[0], l[1], size, api.ErrArg)
		}
	}
	holds(t, n, 0, packet{0, 1, "a"})
}

// P14.2: what is sent over a link that is cut is lost, OK; over the others it goes on; what is refused is not lost.
func TestSendOverACutLink(t *testing.T) {
	there, none := pairs()
	for _, l := range there {
		n := net.New()
		cuts(t, n, l[0], l[1], true)
		var way []packet
		lost := 0
		for _, over := range there {
			for _, text := range []string{"", "x", strings.Repeat("y", most)} {
				p := packet{over[0], over[1], text}
				sends(t, n, p)
				if over == l {
					lost++
				} else {
					way = append(way, p)
				}
				holds(t, n, lost, way...)
			}
		}
		refusesSend(t, n, l[0], l[1], most+1, api.ErrLong)
		for _, over := range none {
			refusesSend(t, n, over[0], over[1], 1, api.ErrArg)
		}
		holds(t, n, 3, way...)
		cuts(t, n, l[0], l[1], false)
		sends(t, n, packet{l[0], l[1], "again"})
		holds(t, n, 3, append(way, packet{l[0], l[1], "again"})...)
	}
}

// P14.2: when 4,096 are on their way what is sent is lost, OK, over a whole link and over one that is cut, each time once; what is refused is not lost; when there is room again it is on its way again.
func TestSendWithoutRoom(t *testing.T) {
	way := numbered(room)
	n := carrying(t, way[:room-1]...)
	holds(t, n, 0, way[:room-1]...)
	sends(t, n, way[room-1])
	holds(t, n, 0, way...)
	sends(t, n, packet{0, 1, "lost"})
	holds(t, n, 1, way...)
	refusesSend(t, n, 0, 0, 1, api.ErrArg)
	refusesSend(t, n, math.MaxInt, 0, most+1, api.ErrArg)
	refusesSend(t, n, 0, 1, most+1, api.ErrLong)
	cuts(t, n, 0, 1, true)
	sends(t, n, packet{0, 1, "cut"})
	holds(t, n, 2, way...)
	refusesSend(t, n, 0, 1, most+1, api.ErrLong)
	delivers(t, n, 7, way[7])
	sends(t, n, packet{0, 1, "cut"})
	left := append(append([]packet{}, way[:7]...), way[8:]...)
	holds(t, n, 3, left...)
	cuts(t, n, 0, 1, false)
	sends(t, n, packet{0, 1, "sent"})
	sends(t, n, packet{0, 1, "lost"})
	holds(t, n, 4, append(left, packet{0, 1, "sent"})...)
}
