package clock_test

import (
	"testing"

	"tandem/api"
)

// P15.3: between any two moments of a script in which all ticks keep the bound, one clock goes on by at most 110 for each 90 of another one.
func TestDrift(t *testing.T) {
	for seed := range int64(20) {
		r := chance(seed)
		c := made(t, three{r.Intn(1000), r.Intn(top / 2), 0})
		moments := []three{shown(c)}
		for range 150 {
			refuses(t, c, three{top + 1, 0, 0}, api.ErrFull)
			refuses(t, c, three{0, 50, -1}, api.ErrRange)
			ticks(t, c, bound(r))
			moments = append(moments, shown(c))
		}
		if !c.Kept() {
			t.Fatal("Kept is false, and all ticks kept the bound")
		}
		for i, from := range moments {
			for _, to := range moments[i:] {
				drifts(t, from, to)
			}
		}
	}
}

// P15.3: the bound is as near as it can be: a clock that goes on by 110 beside one that goes on by 90.
func TestDriftAtTheBound(t *testing.T) {
	for _, p := range pairs() {
		by := three{100, 100, 100}
		by[p[0]], by[p[1]] = fast, slow
		c := made(t, three{})
		for many := 1; many <= 300; many++ {
			ticks(t, c, by)
			drifts(t, three{}, shown(c))
			if c.Now(p[0]) != many*fast || c.Now(p[1]) != many*slow || !c.Kept() {
				t.Fatalf("%d ticks: %v, Kept = %v", many, shown(c), c.Kept())
			}
		}
	}
}

// P15.3: a tick that lets clocks drift further is told by Kept.
func TestDriftBeyondTheBound(t *testing.T) {
	for _, p := range pairs() {
		for _, parts := range [][2]int{{fast + 1, slow}, {fast, slow - 1}, {slow, 0}, {1, 0}, {1 << 39, fast}} {
			by := three{100, 100, 100}
			by[p[0]], by[p[1]] = parts[0], parts[1]
			c := made(t, three{})
			ticks(t, c, three{100, 100, 100}, by)
			if c.Kept() {
				t.Fatalf("Kept behind Tick(%v)", by)
			}
		}
	}
}

// drifts holds the bound on the drift between two moments, for each two clocks.
func drifts(t *testing.T, from, to three) {
	t.Helper()
	for _, p := range pairs() {
		one, other := to[p[0]]-from[p[0]], to[p[1]]-from[p[1]]
		if one < 0 || other < 0 || one*slow > other*fast {
			t.Fatalf("from %v to %v: the clock of %d goes on by %d, that of %d by %d", from, to, p[0], one, p[1], other)
		}
	}
}
