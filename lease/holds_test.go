package lease_test

import (
	"math"
	"testing"

	"tandem/api"
)

// whom tells all that a promise may name, what is no node too.
func whom() []int {
	return []int{0, 1, 2, anyone, none, 3, 4, -3, 7, 1 << 32, 1<<32 - 1, -1 << 32, math.MinInt, math.MaxInt}
}

// P16.2: the chapter's examples.
func TestExamplesOfPromises(t *testing.T) {
	holds(t, 1, 100, 1199, true)
	holds(t, 1, 100, 1200, false)
	holds(t, none, 100, 5, false)
	holds(t, none, 0, 5, false)
	bars(t, api.Promise{To: 1, From: 100}, 1, 150, false)
	bars(t, api.Promise{To: 1, From: 100}, 0, 150, true)
	bars(t, api.Promise{To: api.Anyone, From: 100}, 0, 150, true)
}

// P16.2: a promise holds while now less From is below 1,100, ahead of From too; of nobody none does.
func TestPromiseByItsAge(t *testing.T) {
	for _, from := range []int{1200, 2000, 1 << 31, 1 << 32, top / 2, top - 5000} {
		for age, want := range map[int]bool{-1200: true, -1100: true, -1: true, 0: true, 1: true, 899: true, 900: true, 901: true, 1098: true, 1099: true, 1100: false, 1101: false, 1102: false, 2200: false} {
			for _, to := range whom() {
				holds(t, to, from, from+age, want && to != none)
			}
		}
	}
}

// P16.2: a promise holds just till its time is over, and never again.
func TestPromiseGoesOver(t *testing.T) {
	for _, from := range []int{0, 1, 100, 1099, 1100, 1 << 32} {
		for now := max(from-50, 0); now < from+3000; now++ {
			holds(t, 1, from, now, now < from+1100)
			holds(t, anyone, from, now, now < from+1100)
			holds(t, none, from, now, false)
		}
	}
}

// P16.2: at 0 and at 2^40 there are times; beyond them there are none, and there a promise holds, if it names somebody.
func TestPromiseAtTheEndsOfTime(t *testing.T) {
	for _, c := range []struct {
		from, now int
		want      bool
	}{
		{0, 0, true}, {0, 1, true}, {0, 1099, true}, {0, 1100, false}, {1, 0, true}, {0, top, false}, {top, 0, true}, {top, 1, true}, {1, top, false},
		{top, top, true}, {top, top - 1, true}, {top - 1, top, true}, {top - 1099, top, true}, {top - 1100, top, false}, {top - 1101, top, false},
		{-1, 0, true}, {-1, 1098, true}, {-1, 1099, true}, {-1, 5000, true}, {-1, top, true}, {-5000, 0, true}, {0, -1, true}, {1, -1, true}, {top, -1, true}, {-1, -1, true}, {-5000, -1, true},
		{0, top + 1, true}, {top, top + 1, true}, {top - 1099, top + 1, true}, {top - 5000, top + 1, true}, {top + 1, top + 1, true}, {top + 1, top, true}, {top + 1, 0, true}, {top + 1, top + 5000, true},
		{-1, top + 1, true}, {top + 1, -1, true},
	} {
		for _, to := range whom() {
			holds(t, to, c.from, c.now, c.want && to != none)
		}
	}
}

// P16.2, P1: the least and the greatest numbers are no times, though what lies between them wraps round.
func TestPromiseOfWildNumbers(t *testing.T) {
	wild := []int{math.MinInt, math.MinInt + 1, math.MinInt + 1099, math.MinInt + 1100, -1 << 62, 1 << 62, math.MaxInt - 1099, math.MaxInt - 1, math.MaxInt}
	for _, n := range wild {
		for _, other := range append([]int{-1, 0, 1, 100, 1099, 1100, 5000, top - 1, top, top + 1}, wild...) {
			for _, to := range whom() {
				holds(t, to, n, other, to != none)
				holds(t, to, other, n, to != none)
			}
		}
	}
}

// P16.2: a promise bars each node but its own, while it holds; what is of anyone bars each one.
func TestBars(t *testing.T) {
	for to, want := range map[int][3]bool{0: {false, true, true}, 1: {true, false, true}, 2: {true, true, false}, anyone: {true, true, true}, none: {}} {
		p := api.Promise{To: to, From: 100}
		for node := range 3 {
			for _, now := range []int{0, 99, 100, 101, howeverNow, 1198, 1199, -1, -5000, math.MinInt, top + 1, math.MaxInt} {
				bars(t, p, node, now, want[node])
			}
			for _, now := range []int{1200, 1201, 5000, top} {
				bars(t, p, node, now, false)
			}
		}
	}
}

// P16.2: where From is no time, a promise bars each node but its own, however late it is.
func TestBarsWhereFromIsNoTime(t *testing.T) {
	for _, from := range []int{math.MinInt, -5000, -1, top + 1, math.MaxInt} {
		for _, now := range []int{math.MinInt, -1, 0, 1100, 5000, top, top + 1, math.MaxInt} {
			for node := range 3 {
				for to := range 3 {
					bars(t, api.Promise{To: to, From: from}, node, now, to != node)
				}
				bars(t, api.Promise{To: anyone, From: from}, node, now, true)
				bars(t, api.Promise{To: none, From: from}, node, now, false)
			}
		}
	}
}

// P16.2: whoever a promise names that is no node, it bars each node.
func TestBarsOfNoNode(t *testing.T) {
	for _, to := range []int{3, 4, -3, 7, 1 << 32, 1<<32 + 1, math.MinInt, math.MaxInt} {
		for node := range 3 {
			bars(t, api.Promise{To: to, From: 100}, node, 1199, true)
			bars(t, api.Promise{To: to, From: 100}, node, 1200, false)
		}
	}
}

// P16.2: each two of many numbers, beside the document's words.
func TestPromisesAsTheWordsSay(t *testing.T) {
	for _, from := range edges() {
		for _, now := range edges() {
			for _, to := range []int{0, 1, 2, anyone, none, 7} {
				p := api.Promise{To: to, From: from}
				holds(t, to, from, now, holding(p, now))
				for node := range 3 {
					bars(t, p, node, now, barring(p, node, now))
				}
			}
		}
	}
}

// P16.2: numbers without a pattern, near each other, beside the document's words.
func TestPromisesWithoutAPattern(t *testing.T) {
	r := chance(2)
	for range 20000 {
		p := api.Promise{To: one(r, whom()...), From: one(r, r.Intn(3000)-1000, r.Intn(top), top-1500+r.Intn(3000))}
		now := p.From + one(r, r.Intn(1200), r.Intn(4000)-1000, 1<<32+r.Intn(1100))
		holds(t, p.To, p.From, now, holding(p, now))
		for node := range 3 {
			bars(t, p, node, now, barring(p, node, now))
		}
	}
}

// P16.2, P1: of who is no node the same words are told: a promise that holds bars whom it does not name; what is of anyone bars each one.
func TestBarsAskedForNoNode(t *testing.T) {
	for _, node := range whom() {
		for _, to := range whom() {
			for _, now := range []int{math.MinInt, 0, 1199, 1200, 5000, math.MaxInt} {
				p := api.Promise{To: to, From: 100}
				bars(t, p, node, now, barring(p, node, now))
			}
		}
	}
}
