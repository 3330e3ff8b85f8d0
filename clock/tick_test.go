package clock_test

import (
	"math"
	"testing"

	"tandem/api"
)

// P15.2: each clock goes on by its own part, and by no other one's.
func TestTick(t *testing.T) {
	at := three{1000, 20, 3}
	for place := range 3 {
		for _, part := range []int{0, 1, 89, 90, 100, 110, 111, 1 << 32, 1<<32 + 1, top / 2} {
			c := made(t, at)
			by := alone(place, part, 0)
			ticks(t, c, by)
			now := at
			now[place] += part
			holds(t, c, now, false, 1)
		}
	}
	c := made(t, at)
	ticks(t, c, three{91, 102, 109}, three{110, 90, 100})
	holds(t, c, three{1201, 212, 212}, true, 2)
}

// P15.2: no clock goes back: a part below 0 is refused, in whichever place, and however many places.
func TestTickBelowNought(t *testing.T) {
	for _, part := range []int{-1, -2, -90, -100, -1 << 32, -1<<32 + 100, -top, math.MinInt + 1, math.MinInt} {
		for _, at := range []three{{}, {5, 500, 50}, {top, top, top}} {
			c := made(t, at)
			for place := range 3 {
				refuses(t, c, alone(place, part, 0), api.ErrRange)
				refuses(t, c, alone(place, part, 100), api.ErrRange)
				refuses(t, c, alone(place, 0, part), api.ErrRange)
			}
			refuses(t, c, three{part, part, part}, api.ErrRange)
			holds(t, c, at, true, 0)
		}
	}
}

// P15.2: a clock shows up to 2^40, and nothing more, each by itself.
func TestTickToTheTop(t *testing.T) {
	for place := range 3 {
		for _, left := range []int{0, 1, 2, 89, 90, 100, 110, 111, 1 << 32, top - 1, top} {
			c := made(t, alone(place, top-left, 0))
			for _, more := range []int{left + 1, left + 2, left + 1<<32, top + 1, 1 << 41, 1 << 62, math.MaxInt - 1, math.MaxInt} {
				refuses(t, c, alone(place, more, 0), api.ErrFull)
			}
			refuses(t, c, alone(place, left+1, 100), api.ErrFull)
			holds(t, c, alone(place, top-left, 0), true, 0)
			ticks(t, c, alone(place, left, 0))
			holds(t, c, alone(place, top, 0), false, 1)
			refuses(t, c, alone(place, 1, 0), api.ErrFull)
			ticks(t, c, alone(place, 0, 100))
			holds(t, c, alone(place, top, 100), false, 2)
		}
	}
	c := made(t, three{top - 90, top - 100, top - 110})
	ticks(t, c, three{90, 100, 110})
	holds(t, c, three{top, top, top}, true, 1)
	for place := range 3 {
		refuses(t, c, alone(place, 1, 0), api.ErrFull)
	}
	ticks(t, c, three{})
	holds(t, c, three{top, top, top}, false, 2)
}

// P15.2: numbers so great that a sum would wrap are refused, in one place and in more.
func TestTickByTheGreatest(t *testing.T) {
	const most = math.MaxInt
	for _, at := range []three{{}, {1, 1, 1}, {7, top, 0}, {top, top, top}} {
		c := made(t, at)
		for place := range 3 {
			refuses(t, c, alone(place, most, 0), api.ErrFull)
			refuses(t, c, alone(place, 0, most), api.ErrFull)
			refuses(t, c, alone(place, most-at[place], 0), api.ErrFull)
		}
		refuses(t, c, three{most, most, most}, api.ErrFull)
	}
}

// P15.2: ErrRange goes ahead of ErrFull, whichever place each stands in.
func TestTickOrder(t *testing.T) {
	c := made(t, three{top, top - 5, 0})
	for _, p := range pairs() {
		for _, less := range []int{-1, -100, math.MinInt} {
			for _, more := range []int{top + 1, 1 << 62, math.MaxInt} {
				for _, other := range []int{0, 100, less, more} {
					by := three{other, other, other}
					by[p[0]], by[p[1]] = less, more
					refuses(t, c, by, api.ErrRange)
				}
			}
		}
	}
	refuses(t, c, three{1, 0, -1}, api.ErrRange)
	refuses(t, c, three{-1, 6, 0}, api.ErrRange)
	refuses(t, c, three{1, 6, 0}, api.ErrFull)
	holds(t, c, three{top, top - 5, 0}, true, 0)
}

// P15.2, rule 3: what was refused has changed no clock, not that the bound was kept, and no count; so it is as if it had not been there.
func TestRefusedTicksChangeNothing(t *testing.T) {
	r := chance(15)
	at := three{top - 5000, top - 6000, top - 7000}
	x, y := made(t, at), made(t, at)
	for range 40 {
		for place := range 3 {
			refuses(t, x, alone(place, 7001, 0), api.ErrFull)
			refuses(t, x, alone(place, 7001, 100), api.ErrFull)
			refuses(t, x, alone(place, -1, 100), api.ErrRange)
			refuses(t, x, alone(place, -1, 7001), api.ErrRange)
		}
		by := bound(r)
		ticks(t, x, by)
		ticks(t, y, by)
		holds(t, x, shown(y), true, y.Ticks())
	}
}
