package clock_test

import (
	"math"
	"math/rand"
	"testing"

	"tandem/api"
	"tandem/clock"
)

// words is clocks beside what the document's words say of them.
type words struct {
	t   *testing.T
	r   *rand.Rand
	c   *clock.Clocks
	at  three
	all []three // the ticks that there were
}

// begun tells clocks that were just made.
func begun(t *testing.T, seed int64) *words {
	t.Helper()
	r := chance(seed)
	at := three{one(r, 0, 7, top-9000), one(r, 0, r.Intn(top)), one(r, top-100000, top)}
	return &words{t: t, r: r, c: made(t, at), at: at}
}

// now tells what the words say of a clock.
func (w *words) now(node int) int {
	sum := w.at[node]
	for _, by := range w.all {
		sum += by[node]
	}
	return sum
}

// kept tells what the words say of the bound.
func (w *words) kept() bool {
	for _, by := range w.all {
		for _, part := range by {
			if part < slow || part > fast {
				return false
			}
		}
	}
	return true
}

// wants tells what the words say of a tick.
func (w *words) wants(by three) api.Errno {
	if by[0] < 0 || by[1] < 0 || by[2] < 0 {
		return api.ErrRange
	}
	for node, part := range by {
		if uint64(w.now(node))+uint64(part) > top {
			return api.ErrFull
		}
	}
	return api.OK
}

// step has a tick happen, or be refused.
func (w *words) step() {
	w.t.Helper()
	by := bound(w.r)
	switch place := w.r.Intn(3); w.r.Intn(12) {
	case 0:
		by[place] = one(w.r, -1, -100, math.MinInt)
	case 1:
		by[place] = one(w.r, math.MaxInt, top, top+1)
	case 2:
		by[place] = top - w.now(place) + 1 - w.r.Intn(2)*w.r.Intn(2)
	case 3:
		by = three{one(w.r, -1, 0, math.MaxInt), one(w.r, -1, 0, math.MaxInt), one(w.r, -1, 0, math.MaxInt)}
	case 4:
		by[place] = one(w.r, 0, 89, 111)
	case 5, 6, 7:
		by[2] = 0
	}
	want := w.wants(by)
	if got := w.c.Tick(by); got != want {
		w.t.Fatalf("Tick(%v) = %v, not %v", by, got, want)
	}
	if want == api.OK {
		w.all = append(w.all, by)
	}
	w.holds()
}

// holds holds all that the clocks tell against what the words say.
func (w *words) holds() {
	w.t.Helper()
	holds(w.t, w.c, three{w.now(0), w.now(1), w.now(2)}, w.kept(), len(w.all))
}

// P15.1, P15.2: scripts of many calls, beside the document's words.
func TestAsTheWordsSay(t *testing.T) {
	for seed := range int64(60) {
		w := begun(t, seed)
		w.holds()
		for range 150 {
			w.step()
		}
	}
}
