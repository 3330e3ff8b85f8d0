package clock_test

import (
	"math"
	"testing"

	"tandem/api"
	"tandem/clock"
)

// The chapter's examples.
func TestExamples(t *testing.T) {
	c := made(t, three{0, 5, 9})
	ticks(t, c, three{90, 100, 110})
	if shown(c) != (three{90, 105, 119}) || !c.Kept() {
		t.Fatal("Now, Kept =", shown(c), c.Kept())
	}
	ticks(t, c, three{89, 100, 100})
	if c.Kept() || c.Ticks() != 2 {
		t.Fatal("Kept, Ticks =", c.Kept(), c.Ticks())
	}
	if none, err := clock.New(three{-1, 0, 0}); none != nil || err != api.ErrRange {
		t.Fatal("New(-1 0 0) =", none, err)
	}
	if err := c.Tick(three{0, -1, 0}); err != api.ErrRange {
		t.Fatal("Tick(0 -1 0) =", err)
	}
	if err := made(t, three{1 << 40, 0, 0}).Tick(three{1, 1, 1}); err != api.ErrFull {
		t.Fatal("Tick(1 1 1) at 2^40 =", err)
	}
	if c.Now(3) != 0 {
		t.Fatal("Now(3) =", c.Now(3))
	}
}

// P15.1: clocks show what they were made with, from 0 to 2^40, in each place; no tick was there, so all have kept the bound.
func TestNew(t *testing.T) {
	some := []int{0, 1, 2, 89, 90, 100, 110, 111, 1 << 31, 1<<32 + 1, top / 2, top - 110, top - 1, top}
	for _, x := range some {
		for _, y := range some {
			for _, z := range some {
				at := three{x, y, z}
				holds(t, made(t, at), at, true, 0)
			}
		}
	}
}

// P15.1: beyond 0 and 2^40 there are no clocks, in whichever place, and however many places.
func TestNewOutOfRange(t *testing.T) {
	there := []int{0, 1, 100, top - 1, top}
	none := []int{math.MinInt, math.MinInt + 1, -top, -1 << 32, -1, top + 1, top + 110, 1 << 41, 1 << 62, math.MaxInt - 1, math.MaxInt}
	refused := func(at three) {
		t.Helper()
		if c, err := clock.New(at); c != nil || err != api.ErrRange {
			t.Fatalf("New(%v) = %v, %v, not ErrRange", at, c, err)
		}
	}
	for _, x := range none {
		for place := range 3 {
			for _, other := range there {
				refused(alone(place, x, other))
			}
		}
		for _, y := range none {
			for place := range 3 {
				at := alone(place, 7, x)
				at[(place+1)%3] = y
				refused(at)
			}
			refused(three{x, y, -1})
			refused(three{top + 1, x, y})
		}
	}
}

// P15.1: Now tells each node's own clock, and 0 of what is none.
func TestNow(t *testing.T) {
	c := made(t, three{7, top, 300})
	for node, want := range []int{7, top, 300} {
		if c.Now(node) != want {
			t.Fatalf("Now(%d) = %d, not %d", node, c.Now(node), want)
		}
	}
	for _, node := range nobody() {
		if c.Now(node) != 0 {
			t.Fatalf("Now(%d) = %d, not 0", node, c.Now(node))
		}
	}
}

// P15.1: clocks have kept the bound while each one goes on by 90 to 110 in each tick; what is beyond that in one place is seen.
func TestKept(t *testing.T) {
	for part, kept := range map[int]bool{0: false, 1: false, 50: false, 88: false, 89: false, 90: true, 91: true, 100: true, 109: true, 110: true, 111: false, 112: false, 200: false, 1 << 32: false, 1<<32 + 100: false, top - 110: false} {
		for place := range 3 {
			for _, other := range []int{90, 100, 110} {
				c := made(t, three{})
				by := alone(place, part, other)
				ticks(t, c, by)
				holds(t, c, by, kept, 1)
			}
		}
		c := made(t, three{})
		ticks(t, c, three{part, part, part})
		holds(t, c, three{part, part, part}, kept, 1)
	}
}

// P15.1: once a tick has not kept the bound, whichever it is, Kept stays false, whatever comes behind.
func TestKeptStaysFalse(t *testing.T) {
	for place := range 3 {
		for _, part := range []int{0, 89, 111} {
			for ahead := range 4 {
				c := made(t, three{})
				for range ahead {
					ticks(t, c, three{90, 100, 110})
				}
				if !c.Kept() {
					t.Fatalf("Kept is false behind %d ticks that keep the bound", ahead)
				}
				ticks(t, c, alone(place, part, 100))
				for behind := range 20 {
					if c.Kept() || c.Ticks() != ahead+1+behind {
						t.Fatalf("%d ticks behind one by %d: Kept = %v, Ticks = %d", behind, part, c.Kept(), c.Ticks())
					}
					ticks(t, c, three{110, 100, 90})
				}
			}
		}
	}
}

// P15.1: each tick is told on its own: that many together would keep the bound is not asked.
func TestKeptIsOfEachTick(t *testing.T) {
	c := made(t, three{})
	ticks(t, c, three{100, 89, 100}, three{100, 111, 100})
	holds(t, c, three{200, 200, 200}, false, 2)
	c = made(t, three{})
	ticks(t, c, three{90, 110, 90}, three{90, 110, 90}, three{90, 110, 90})
	holds(t, c, three{270, 330, 270}, true, 3)
}

// P15.1: Ticks tells how many ticks there were: by nothing, too, and such as have not kept the bound; but none that was refused.
func TestTicks(t *testing.T) {
	c := made(t, three{0, 0, top})
	for many := range 300 {
		holds(t, c, three{0, 0, top}, many == 0, many)
		refuses(t, c, three{0, 0, 1}, api.ErrFull)
		refuses(t, c, three{0, -1, 0}, api.ErrRange)
		ticks(t, c, three{})
	}
}

// P15.1: clocks do not hear of each other.
func TestClocksAreTheirOwn(t *testing.T) {
	x, y := made(t, three{1, 2, 3}), made(t, three{1, 2, 3})
	ticks(t, x, three{5, 6, 7})
	holds(t, x, three{6, 8, 10}, false, 1)
	holds(t, y, three{1, 2, 3}, true, 0)
	ticks(t, y, three{90, 90, 90}, three{90, 90, 90})
	holds(t, x, three{6, 8, 10}, false, 1)
	holds(t, y, three{181, 182, 183}, true, 2)
	holds(t, made(t, three{1, 2, 3}), three{1, 2, 3}, true, 0)
}
