package lease_test

import (
	"math/rand"
	"testing"

	"tandem/api"
	"tandem/lease"
)

// given is a lease of one node, and the promise that another one gave for it.
type given struct {
	stamp   int // by the clock of who asked for the lease
	promise api.Promise
}

// two is the clocks of who asks for leases and of who gives promises.
type two struct{ asks, gives int }

// tick lets both clocks go on by parts that keep the bound.
func (c *two) tick(t *testing.T, asks, gives int) {
	t.Helper()
	keeps(t, true, asks, gives)
	c.asks += asks
	c.gives += gives
}

// follows holds that a promise holds as long as its lease is valid: it bars each other node meanwhile. It tells whether the lease is valid.
func (c two) follows(t *testing.T, g given) bool {
	t.Helper()
	if !lease.Valid(g.stamp, c.asks) {
		return false
	}
	if !lease.Holds(g.promise, c.gives) {
		t.Fatalf("%+v: the lease of %d is valid, and the promise of %+v does not hold", c, g.stamp, g.promise)
	}
	for node := range 3 {
		bars(t, g.promise, node, c.gives, node != g.promise.To)
	}
	return true
}

// P16.4: a promise that is given some steps behind the one at which a lease was asked for holds as long as the lease is valid, wherever both clocks begin, and however they go on within the bound.
func TestPromiseOutlivesTheLease(t *testing.T) {
	r := chance(4)
	for range 4000 {
		c := two{begin(r), begin(r)}
		stamp := c.asks
		for range r.Intn(10) {
			c.tick(t, part(r), part(r))
		}
		g := given{stamp, api.Promise{To: one(r, 0, 1, 2, anyone), From: c.gives}}
		steps := 0
		for c.follows(t, g) {
			c.tick(t, part(r), part(r))
			steps++
		}
		if steps > 10 {
			t.Fatalf("a lease is valid for %d steps", steps)
		}
	}
}

// begin tells where a clock begins, so that it does not come to its end.
func begin(r *rand.Rand) int { return one(r, 0, 1, r.Intn(2000), r.Intn(top-5000), top-5000) }

// P16.4: the worst there is: the one clock goes on by 90 a tick, the other one by 110, and the promise is given at the step of the lease: behind nine ticks the lease is valid, and the promise holds, behind ten the lease is over.
func TestPromiseAtTheBound(t *testing.T) {
	for _, at := range []two{{0, 0}, {0, 77}, {5000, 3}, {1 << 32, 12}, {9, top - 2000}, {top - 2000, top - 2000}} {
		c := at
		g := given{c.asks, api.Promise{To: 1, From: c.gives}}
		for step := range 10 {
			if !c.follows(t, g) {
				t.Fatalf("behind %d ticks of 90 the lease is over", step)
			}
			c.tick(t, slow, fast)
		}
		if lease.Valid(g.stamp, c.asks) {
			t.Fatal("behind ten ticks of 90 the lease is valid")
		}
	}
}

// P16.4: a giver whose clock goes on faster than the bound allows may break its promise while the lease is valid, and Keeps tells it.
func TestPromiseBeyondTheBound(t *testing.T) {
	asks, gives := 0, 0
	g := given{asks, api.Promise{To: 1, From: gives}}
	for range 9 {
		keeps(t, false, slow, 123)
		asks, gives = asks+slow, gives+123
	}
	if !lease.Valid(g.stamp, asks) || lease.Holds(g.promise, gives) {
		t.Fatal("Valid, Holds =", lease.Valid(g.stamp, asks), lease.Holds(g.promise, gives))
	}
}

// P16.4: leases that are asked for again and again, each with a promise behind it: what holds is the newest promise, and it holds while any of the leases is valid.
func TestPromisesOneBehindAnother(t *testing.T) {
	for seed := range int64(50) {
		r := chance(seed)
		c := two{begin(r), begin(r)}
		var all []given
		for range 40 {
			if r.Intn(3) == 0 {
				all = append(all, given{c.asks, api.Promise{To: 0, From: c.gives}})
			}
			for _, g := range all {
				if c.follows(t, given{g.stamp, all[len(all)-1].promise}) {
					c.follows(t, g)
				}
			}
			c.tick(t, part(r), part(r))
		}
	}
}

// P1: the same is told of the same arguments, whoever else asks meanwhile.
func TestTheSameOfTheSame(t *testing.T) {
	for range 8 {
		t.Run("", func(t *testing.T) {
			t.Parallel()
			r := chance(5)
			for range 3000 {
				stamp := r.Intn(4000) - 500
				now := stamp + r.Intn(1500)
				p := api.Promise{To: one(r, 0, 1, 2, anyone, none), From: stamp}
				valid(t, stamp, now, left(stamp, now))
				holds(t, p.To, p.From, now, holding(p, now))
				bars(t, p, 1, now, barring(p, 1, now))
				adv := []int{r.Intn(200), part(r)}
				keeps(t, keeping(adv), adv...)
			}
		})
	}
}
