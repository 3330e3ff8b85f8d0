package lease_test

import (
	"math"
	"math/rand"
	"slices"
	"testing"

	"tandem/api"
	"tandem/lease"
)

// What the document says of leases, in numbers of the tests' own.
const (
	top        = 1 << 40 // a time at most
	slow       = 90      // by how much a clock goes on in a tick that keeps the bound, at least
	fast       = 110     // and at most
	leased     = 900     // how long a lease is valid
	promised   = 1100    // how long a promise holds
	none       = -1      // whom a promise names that is of nobody
	anyone     = -2      // whom one names that may be of any node
	howeverNow = 150     // a time, where it does not matter which
)

// edges tells numbers about what the document names, and about what a number can be.
func edges() []int {
	all := []int{math.MinInt, math.MaxInt, top, -top, top / 2, 1 << 31, 1 << 32, -1 << 32, 1<<32 + leased, 1 << 41, 1<<41 + 5, 1 << 62, -1 << 62}
	for _, long := range []int{0, slow, leased, promised, 2 * leased} {
		all = append(all, long, -long, top-long, top+long, math.MinInt+long, math.MaxInt-long)
	}
	for _, n := range slices.Clone(all) {
		if n > math.MinInt {
			all = append(all, n-1)
		}
		if n < math.MaxInt {
			all = append(all, n+1)
		}
	}
	slices.Sort(all)
	return slices.Compact(all)
}

// isTime tells whether a number is a time, as the document says it.
func isTime(n int) bool { return n >= 0 && n <= top }

// left tells of a lease what the document's words say of it: how many moments there are, from now on, at which now less the stamp is below 900.
func left(stamp, now int) int {
	if !isTime(stamp) || !isTime(now) || stamp > now {
		return 0
	}
	many := 0
	for n := now; n-stamp < leased; n++ {
		many++
	}
	return many
}

// holding tells whether a promise holds, as the document's words say it.
func holding(p api.Promise, now int) bool {
	switch {
	case p.To == none:
		return false
	case !isTime(p.From) || !isTime(now):
		return true
	}
	return now < p.From+promised
}

// barring tells whether a promise bars a node, as the document's words say it.
func barring(p api.Promise, node, now int) bool {
	return holding(p, now) && (p.To == anyone || node != p.To)
}

// keeping tells whether parts keep the bound, as the document's words say it.
func keeping(adv []int) bool {
	for _, part := range adv {
		if part < slow || part > fast {
			return false
		}
	}
	return true
}

// valid holds what Valid and Left tell of a lease.
func valid(t *testing.T, stamp, now, want int) {
	t.Helper()
	if got := lease.Left(stamp, now); got != want {
		t.Fatalf("Left(%d, %d) = %d, not %d", stamp, now, got, want)
	}
	if got := lease.Valid(stamp, now); got != (want > 0) {
		t.Fatalf("Valid(%d, %d) = %v, and it has %d left", stamp, now, got, want)
	}
}

// holds holds what Holds tells of a promise.
func holds(t *testing.T, to, from, now int, want bool) {
	t.Helper()
	if got := lease.Holds(api.Promise{To: to, From: from}, now); got != want {
		t.Fatalf("Holds(To %d From %d, %d) = %v", to, from, now, got)
	}
}

// bars holds what Bars tells of a promise.
func bars(t *testing.T, p api.Promise, node, now int, want bool) {
	t.Helper()
	if got := lease.Bars(p, node, now); got != want {
		t.Fatalf("Bars(To %d From %d, %d, %d) = %v", p.To, p.From, node, now, got)
	}
}

// keeps holds what Keeps tells of parts.
func keeps(t *testing.T, want bool, adv ...int) {
	t.Helper()
	if got := lease.Keeps(adv); got != want {
		t.Fatalf("Keeps of %d parts %v = %v", len(adv), adv[:min(len(adv), 8)], got)
	}
}

// chance tells a source of numbers without a pattern, the same in every run.
func chance(seed int64) *rand.Rand { return rand.New(rand.NewSource(seed)) }

// one tells one of some numbers.
func one(r *rand.Rand, of ...int) int { return of[r.Intn(len(of))] }

// part tells how far a clock goes on in a tick that keeps the bound.
func part(r *rand.Rand) int { return one(r, slow, fast, slow+r.Intn(fast-slow+1)) }
