package clock_test

import (
	"math"
	"math/rand"
	"testing"

	"tandem/api"
	"tandem/clock"
)

// What the document says of clocks, in numbers of the tests' own.
const (
	top  = 1 << 40 // what a clock shows at most
	slow = 90      // by how much a clock goes on in a tick that keeps the bound, at least
	fast = 110     // and at most
)

// three is a number for each node.
type three = [3]int

// alone tells three numbers of which one stands at a place, and another one at the other two.
func alone(place, n, other int) three {
	all := three{other, other, other}
	all[place] = n
	return all
}

// pairs tells each two places that are not the same.
func pairs() [][2]int {
	return [][2]int{{0, 1}, {0, 2}, {1, 0}, {1, 2}, {2, 0}, {2, 1}}
}

// nobody tells numbers that are no node's.
func nobody() []int {
	return []int{math.MinInt, math.MinInt + 1, -1 << 32, -3, -2, -1, 3, 4, 5, 1 << 32, 1<<32 + 1, math.MaxInt - 1, math.MaxInt}
}

// made tells clocks that show these times.
func made(t *testing.T, at three) *clock.Clocks {
	t.Helper()
	c, err := clock.New(at)
	if c == nil || err != api.OK {
		t.Fatalf("New(%v) = %v, %v", at, c, err)
	}
	return c
}

// ticks holds that Tick takes these ticks.
func ticks(t *testing.T, c *clock.Clocks, all ...three) {
	t.Helper()
	for _, by := range all {
		if err := c.Tick(by); err != api.OK {
			t.Fatalf("Tick(%v) = %v", by, err)
		}
	}
}

// refuses holds that Tick tells an error, and changes nothing.
func refuses(t *testing.T, c *clock.Clocks, by three, want api.Errno) {
	t.Helper()
	was, kept, many := shown(c), c.Kept(), c.Ticks()
	if err := c.Tick(by); err != want {
		t.Fatalf("Tick(%v) at %v = %v, not %v", by, was, err, want)
	}
	holds(t, c, was, kept, many)
}

// shown tells what the clocks show.
func shown(c *clock.Clocks) three { return three{c.Now(0), c.Now(1), c.Now(2)} }

// holds holds all that clocks tell, twice: asking changes nothing.
func holds(t *testing.T, c *clock.Clocks, now three, kept bool, many int) {
	t.Helper()
	for range 2 {
		if shown(c) != now || c.Kept() != kept || c.Ticks() != many {
			t.Fatalf("Now = %v, Kept = %v, Ticks = %d, not %v, %v, %d", shown(c), c.Kept(), c.Ticks(), now, kept, many)
		}
		for _, node := range nobody() {
			if c.Now(node) != 0 {
				t.Fatalf("Now(%d) = %d", node, c.Now(node))
			}
		}
	}
}

// chance tells a source of numbers without a pattern, the same in every run.
func chance(seed int64) *rand.Rand { return rand.New(rand.NewSource(seed)) }

// one tells one of some numbers.
func one(r *rand.Rand, of ...int) int { return of[r.Intn(len(of))] }

// bound tells a tick that keeps the bound.
func bound(r *rand.Rand) three {
	var by three
	for i := range by {
		by[i] = one(r, slow, fast, slow+r.Intn(fast-slow+1))
	}
	return by
}
