package lease_test

import (
	"math"
	"testing"

	"tandem/lease"
)

// P16.1: the chapter's examples.
func TestExamplesOfLeases(t *testing.T) {
	if !lease.Valid(100, 999) || lease.Valid(100, 1000) || lease.Valid(100, 99) {
		t.Fatal("Valid =", lease.Valid(100, 999), lease.Valid(100, 1000), lease.Valid(100, 99))
	}
	if lease.Left(100, 999) != 1 || lease.Left(100, 1000) != 0 {
		t.Fatal("Left =", lease.Left(100, 999), lease.Left(100, 1000))
	}
}

// P16.1: a lease is valid from its stamp on, while now less the stamp is below 900, wherever it stands among the times.
func TestLeaseByItsAge(t *testing.T) {
	for _, stamp := range []int{1, 2, 89, 100, 899, 900, 901, 1100, 1 << 31, 1 << 32, top / 2, top - 1000, top - 901} {
		for age, want := range map[int]int{-1: 0, 0: 900, 1: 899, 2: 898, 450: 450, 898: 2, 899: 1, 900: 0, 901: 0} {
			valid(t, stamp, stamp+age, want)
		}
	}
}

// P16.1: as the clock goes on Left goes down from 900 to 1, one by one, and Valid is told just where it is above 0.
func TestLeftGoesDown(t *testing.T) {
	for _, stamp := range []int{0, 1, 77, 900, 1 << 32, top - 3000} {
		valid(t, stamp, stamp, 900)
		for now := stamp + 1; now < stamp+900; now++ {
			if lease.Left(stamp, now) != lease.Left(stamp, now-1)-1 {
				t.Fatalf("Left(%d, %d) = %d behind %d", stamp, now, lease.Left(stamp, now), lease.Left(stamp, now-1))
			}
			valid(t, stamp, now, 900-(now-stamp))
		}
		for now := stamp + 900; now < stamp+2500; now++ {
			valid(t, stamp, now, 0)
		}
	}
}

// P16.1: Left tells as many as there are moments from now on at which Valid holds.
func TestLeftCountsWhatIsValid(t *testing.T) {
	for _, stamp := range []int{0, 5, 100, 12345, 1 << 33} {
		many := 0
		for now := stamp + 1000; now >= max(stamp-20, 0); now-- {
			switch {
			case lease.Valid(stamp, now):
				many++
			case now < stamp:
				many = 0
			}
			valid(t, stamp, now, many)
		}
	}
}

// P16.1: at 0 and at 2^40 there are times, beyond them none: no lease is valid of these, in whichever place they stand.
func TestLeaseAtTheEndsOfTime(t *testing.T) {
	for _, c := range [][3]int{
		{0, 0, 900}, {0, 1, 899}, {0, 899, 1}, {0, 900, 0}, {1, 0, 0}, {0, top, 0}, {top, 0, 0},
		{-1, 0, 0}, {-1, -1, 0}, {0, -1, 0}, {-1, 1, 0}, {-1, 898, 0}, {1, -1, 0}, {-900, -1, 0}, {-5, 5, 0},
		{top, top, 900}, {top - 1, top, 899}, {top - 1, top - 1, 900}, {top, top - 1, 0}, {top - 899, top, 1}, {top - 900, top, 0},
		{top, top + 1, 0}, {top + 1, top + 1, 0}, {top + 1, top, 0}, {top - 1, top + 1, 0}, {top - 800, top + 1, 0}, {top + 1, top + 2, 0},
		{-1, top, 0}, {-1, top + 1, 0}, {0, top + 1, 0}, {top + 1, -1, 0}, {top + 1, 0, 0},
	} {
		valid(t, c[0], c[1], c[2])
	}
}

// P16.1, P1: the least and the greatest numbers are no times, though what lies between them wraps round.
func TestLeaseOfWildNumbers(t *testing.T) {
	wild := []int{math.MinInt, math.MinInt + 1, math.MinInt + 899, math.MinInt + 900, -1 << 62, 1 << 62, math.MaxInt - 899, math.MaxInt - 1, math.MaxInt}
	for _, n := range wild {
		for _, other := range append([]int{-1, 0, 1, 100, 899, top - 1, top, top + 1}, wild...) {
			valid(t, n, other, 0)
			valid(t, other, n, 0)
		}
	}
}

// P16.1: each two of many numbers, beside the document's words.
func TestLeaseAsTheWordsSay(t *testing.T) {
	for _, stamp := range edges() {
		for _, now := range edges() {
			valid(t, stamp, now, left(stamp, now))
		}
	}
}

// P16.1: numbers without a pattern, near each other, beside the document's words.
func TestLeasesWithoutAPattern(t *testing.T) {
	r := chance(1)
	for range 20000 {
		stamp := one(r, r.Intn(3000)-1000, r.Intn(top), top-1500+r.Intn(3000))
		now := stamp + one(r, r.Intn(1000), r.Intn(3000)-1000, 1<<32+r.Intn(900))
		valid(t, stamp, now, left(stamp, now))
	}
}
