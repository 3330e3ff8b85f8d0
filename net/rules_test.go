package net_test

import (
	"bytes"
	"slices"
	"testing"

	"tandem/api"
	"tandem/net"
)

// Rule 4: Send changes nothing of what it is handed, nor of its spare room, and does not keep it; what is refused or lost too.
func TestSendLeavesTheBytes(t *testing.T) {
	r := chance(4)
	for size := range most + 3 {
		n := net.New()
		cuts(t, n, 1, 0, true)
		space := wild(r, size+300)
		was := slices.Clone(space)
		want := api.OK
		if size > most {
			want = api.ErrLong
		}
		for _, l := range [][2]int{{0, 1}, {1, 0}, {1, 1}} {
			if err := n.Send(l[0], l[1], space[:size]); err != want && l[0] != l[1] {
				t.Fatalf("Send(%d, %d, %d bytes) = %v", l[0], l[1], size, err)
			}
			if !bytes.Equal(space, was) {
				t.Fatalf("Send(%d, %d, %d bytes) changes what it is handed", l[0], l[1], size)
			}
		}
		if want != api.OK {
			continue
		}
		p := packet{0, 1, string(was[:size])}
		scribble(space)
		holds(t, n, 1, p)
		copy(space, was)
		got, _ := n.Look(0)
		scribble(got.B)
		got, _ = n.Deliver(0)
		scribble(got.B)
		if !bytes.Equal(space, was) {
			t.Fatalf("%d bytes: what was handed in hears of changes of what is told", size)
		}
	}
}

// Rule 4: what was handed in twice, or in pieces of one slice, is told as it was at each time.
func TestSendOfTheSameBytes(t *testing.T) {
	n := net.New()
	b := []byte("abcdef")
	var way []packet
	for i := range b {
		for _, piece := range [][]byte{b[:i], b[i:], b} {
			if err := n.Send(0, 1, piece); err != api.OK {
				t.Fatal("Send:", err)
			}
			way = append(way, packet{0, 1, string(piece)})
		}
		b[i] = '.'
	}
	scribble(b)
	holds(t, n, 0, way...)
}

// Rule 4: what is told shares no memory with what the net keeps, nor with other answers, nor what was doubled with the other one; its spare room is nobody's either.
func TestAnswersAreNew(t *testing.T) {
	r := chance(5)
	for _, size := range []int{0, 1, 2, 7, 8, 9, 31, 32, 33, 100, most - 1, most} {
		a, b, c := packet{0, 1, string(wild(r, size))}, packet{1, 2, string(wild(r, size))}, packet{2, 0, string(wild(r, size))}
		n := carrying(t, a, b, c)
		doubles(t, n, 1)
		doubles(t, n, 3)
		for i, p := range []packet{a, b, c, b, b} {
			first, _ := n.Look(i)
			then, _ := n.Look(i)
			if !isBlank(first.B) {
				t.Fatalf("behind what Look(%d) tells: %v", i, first.B[:cap(first.B)])
			}
			scribble(first.B)
			if told(then) != p {
				t.Fatal("answers of Look share memory")
			}
			scribble(then.B)
			holds(t, n, 0, a, b, c, b, b)
		}
		was, _ := n.Look(3)
		one, _ := n.Deliver(1)
		two, _ := n.Deliver(2)
		if told(was) != b || told(one) != b || told(two) != b || !isBlank(one.B) || !isBlank(two.B) {
			t.Fatalf("Look, Deliver and Deliver of what was doubled = %v, %v, %v, not %v", told(was), told(one), told(two), b)
		}
		scribble(was.B)
		if told(one) != b || told(two) != b {
			t.Fatal("answers of Look and Deliver share memory")
		}
		scribble(one.B)
		if told(two) != b {
			t.Fatal("what was doubled shares memory with the other one")
		}
		holds(t, n, 0, a, c, b)
		scribble(two.B)
		holds(t, n, 0, a, c, b)
		doubles(t, n, 2)
		last, _ := n.Deliver(2)
		scribble(last.B)
		holds(t, n, 0, a, c, b)
		sends(t, n, packet{0, 2, "behind"})
		holds(t, n, 0, a, c, b, packet{0, 2, "behind"})
	}
}

// Rule 4: what was told stays as it was, whatever is done to the net later.
func TestAnswersStay(t *testing.T) {
	way := numbered(40)
	n := carrying(t, way...)
	looked, _ := n.Look(5)
	delivered, _ := n.Deliver(6)
	n.Drop(5)
	n.Double(5)
	for range 3 {
		clears(t, n)
		for range 60 {
			sends(t, n, packet{1, 0, "\xee\xee"})
		}
	}
	if told(looked) != way[5] || told(delivered) != way[6] {
		t.Fatalf("what was told hears of the net: %v, %v, not %v, %v", told(looked), told(delivered), way[5], way[6])
	}
}

// Rule 5: methods of a net that is nil, or that New did not make, answer ErrNil, and zero values else, ahead of all other errors.
func TestNetsThatNobodyMade(t *testing.T) {
	copied := *busy(t)
	another := *busy(t)
	moved := net.New()
	*moved = another
	for what, n := range map[string]*net.Net{"nil": nil, "zero": {}, "new": new(net.Net), "copied": &copied, "copied over another one": moved} {
		for range 2 {
			for _, l := range [][2]int{{0, 1}, {1, 0}, {0, 0}, {0, 3}, {-1, 2}} {
				for _, size := range []int{0, 1, most, most + 1} {
					if err := n.Send(l[0], l[1], make([]byte, size)); err != api.ErrNil {
						t.Fatalf("%s: Send(%d, %d, %d bytes) = %v", what, l[0], l[1], size, err)
					}
				}
				mend, cut := n.Cut(l[0], l[1], false), n.Cut(l[0], l[1], true)
				if mend != api.ErrNil || cut != api.ErrNil || n.IsCut(l[0], l[1]) {
					t.Fatalf("%s: Cut(%d, %d) = %v and %v, IsCut = %v", what, l[0], l[1], mend, cut, n.IsCut(l[0], l[1]))
				}
			}
			for _, i := range []int{-1, 0, 1, 2, room} {
				var none packet
				look, seen := n.Look(i)
				deliver, came := n.Deliver(i)
				if look.B != nil || deliver.B != nil || told(look) != none || told(deliver) != none || seen != api.ErrNil || came != api.ErrNil {
					t.Fatalf("%s: Look(%d) = %v, %v, Deliver = %v, %v", what, i, look, seen, deliver, came)
				}
				if drop, double := n.Drop(i), n.Double(i); drop != api.ErrNil || double != api.ErrNil {
					t.Fatalf("%s: Drop(%d) = %v, Double = %v", what, i, drop, double)
				}
			}
			if err := n.Clear(); err != api.ErrNil || n.Count() != 0 || n.Lost() != 0 {
				t.Fatalf("%s: Clear() = %v, Count() = %d, Lost() = %d", what, err, n.Count(), n.Lost())
			}
		}
	}
}

// busy tells a net with two datagrams on their way, one that is lost, and a link that is cut.
func busy(t *testing.T) *net.Net {
	t.Helper()
	n := carrying(t, packet{0, 1, "a"}, packet{1, 2, "b"}, packet{2, 0, "c"})
	drops(t, n, 1)
	cuts(t, n, 1, 0, true)
	return n
}

// Rule 5: a net goes on as it was though a copy of it was asked.
func TestACopyLeavesTheNet(t *testing.T) {
	n := busy(t)
	copied := *n
	copied.Send(0, 1, []byte("x"))
	copied.Double(0)
	copied.Deliver(0)
	copied.Drop(0)
	copied.Clear()
	copied.Cut(0, 1, true)
	copied.Cut(1, 0, false)
	holds(t, n, 1, packet{0, 1, "a"}, packet{2, 0, "c"})
	holdsCut(t, n, map[[2]int]bool{{1, 0}: true})
}

// P1: the same is told of the same calls, whoever else has nets meanwhile.
func TestTheSameOfTheSame(t *testing.T) {
	for range 8 {
		t.Run("", func(t *testing.T) {
			t.Parallel()
			w := begun(t, 77)
			for range 800 {
				w.step(0)
			}
			w.holds(true)
		})
	}
}
