package clock_test

import (
	"math"
	"testing"

	"tandem/api"
	"tandem/clock"
)

// Rule 4: what New is handed stays as it was, and is not looked at later.
func TestNewLeavesTheTimes(t *testing.T) {
	at := three{1, 20, 300}
	c := made(t, at)
	if at != (three{1, 20, 300}) {
		t.Fatal("New changes what it is handed:", at)
	}
	at = three{7, 7, 7}
	holds(t, c, three{1, 20, 300}, true, 0)
	ticks(t, c, three{90, 90, 90})
	if at != (three{7, 7, 7}) {
		t.Fatal("a tick changes what New was handed:", at)
	}
}

// Rule 4: what Tick is handed stays as it was, and is not looked at later; what is refused, too.
func TestTickLeavesTheParts(t *testing.T) {
	c := made(t, three{1, 20, 300})
	for _, was := range []three{{90, 100, 110}, {89, 0, 111}, {-1, 5, 5}, {5, top, 5}, {5, math.MinInt, math.MaxInt}} {
		by := was
		c.Tick(by)
		if by != was {
			t.Fatalf("Tick changes what it is handed: %v, not %v", by, was)
		}
		now, kept, many := shown(c), c.Kept(), c.Ticks()
		by = three{7, 7, 7}
		holds(t, c, now, kept, many)
	}
	holds(t, c, three{180, 120, 521}, false, 2)
}

// Rule 5: clocks that are nil, or that New did not make, answer ErrNil, and zero values else, ahead of all other errors.
func TestClocksThatNobodyMade(t *testing.T) {
	copied := *made(t, three{1, 2, 3})
	another := *made(t, three{4, 5, 6})
	moved := made(t, three{7, 8, 9})
	*moved = another
	for what, c := range map[string]*clock.Clocks{"nil": nil, "zero": {}, "new": new(clock.Clocks), "copied": &copied, "copied over another one": moved} {
		for _, by := range []three{{}, {100, 100, 100}, {-1, 0, 0}, {0, 0, top + 1}, {math.MinInt, math.MaxInt, 0}} {
			if err := c.Tick(by); err != api.ErrNil {
				t.Fatalf("%s: Tick(%v) = %v, not ErrNil", what, by, err)
			}
			holds(t, c, three{}, false, 0)
		}
	}
}

// Rule 5: clocks go on as they were though a copy of them was asked.
func TestACopyLeavesTheClocks(t *testing.T) {
	c := made(t, three{1, 2, 3})
	copied := *c
	copied.Tick(three{5, 5, 5})
	holds(t, c, three{1, 2, 3}, true, 0)
	ticks(t, c, three{90, 90, 90})
	holds(t, c, three{91, 92, 93}, true, 1)
}

// P1: the same is told of the same calls, whoever else has clocks meanwhile.
func TestTheSameOfTheSame(t *testing.T) {
	for range 8 {
		t.Run("", func(t *testing.T) {
			t.Parallel()
			w := begun(t, 77)
			for range 300 {
				w.step()
			}
		})
	}
}
