package lease_test

import (
	"math"
	"slices"
	"testing"

	"tandem/lease"
)

// loose tells parts that do not keep the bound.
func loose() []int {
	return []int{math.MinInt, math.MinInt + 100, -1 << 32, -100, -90, -1, 0, 1, 50, 88, 89, 111, 112, 200, 900, 1<<32 + 100, top, math.MaxInt - 1, math.MaxInt}
}

// P16.3: the chapter's examples.
func TestExamplesOfKeeps(t *testing.T) {
	keeps(t, true, 90, 110, 100)
	keeps(t, false, 89)
	keeps(t, true)
}

// P16.3: none keep the bound, nil or empty.
func TestKeepsOfNone(t *testing.T) {
	if !lease.Keeps(nil) || !lease.Keeps([]int{}) || !lease.Keeps([]int{5, 6}[:0]) {
		t.Fatal("Keeps of none =", lease.Keeps(nil), lease.Keeps([]int{}), lease.Keeps([]int{5, 6}[:0]))
	}
}

// P16.3: one part keeps the bound just if it is from 90 to 110.
func TestKeepsOfOne(t *testing.T) {
	for part := -300; part < 1300; part++ {
		keeps(t, part >= 90 && part <= 110, part)
	}
	for _, part := range loose() {
		keeps(t, false, part)
	}
}

// P16.3: of many each has to keep the bound: one that does not is seen at whichever place.
func TestKeepsOfMany(t *testing.T) {
	for _, many := range []int{2, 3, 4, 5, 8, 17, 100} {
		adv := make([]int, many)
		for i := range adv {
			adv[i] = 90 + i%21
		}
		keeps(t, true, adv...)
		for place := range adv {
			for _, part := range loose() {
				was := adv[place]
				adv[place] = part
				keeps(t, false, adv...)
				adv[place] = was
			}
		}
		keeps(t, true, adv...)
	}
}

// P16.3: parts that would keep the bound together, or that make up for each other, do not.
func TestKeepsAsksForEach(t *testing.T) {
	keeps(t, false, 80, 120)
	keeps(t, false, 120, 80, 100)
	keeps(t, false, 89, 111)
	keeps(t, false, 0, 100, 200)
	keeps(t, false, -100, 100, 300)
	keeps(t, false, math.MinInt, math.MaxInt)
	keeps(t, false, 1, 1)
}

// P16.3: a million parts, of which the last one alone does not keep the bound.
func TestKeepsOfVeryMany(t *testing.T) {
	adv := slices.Repeat([]int{90, 101, 110}, 1<<20)
	keeps(t, true, adv...)
	adv[len(adv)-1] = 111
	keeps(t, false, adv...)
}

// P16.3: parts without a pattern, beside the document's words.
func TestPartsWithoutAPattern(t *testing.T) {
	r := chance(3)
	for range 20000 {
		adv := make([]int, r.Intn(9))
		for i := range adv {
			adv[i] = part(r)
			if r.Intn(10) == 0 {
				adv[i] = one(r, append(loose(), r.Intn(300))...)
			}
		}
		keeps(t, keeping(adv), adv...)
	}
}

// Rule 4: what Keeps is handed stays as it was, its spare room too.
func TestKeepsLeavesTheParts(t *testing.T) {
	for _, place := range []int{-1, 0, 2, 4} {
		room := []int{90, 91, 100, 109, 110, -7, 111, 5}
		if place >= 0 {
			room[place] = 89
		}
		was := slices.Clone(room)
		if got := lease.Keeps(room[:5]); got != (place < 0) {
			t.Fatalf("Keeps(%v) = %v", room[:5], got)
		}
		if !slices.Equal(room, was) {
			t.Fatalf("Keeps changes what it is handed: %v, not %v", room, was)
		}
	}
}

// Rule 4: what was handed in is not looked at later.
func TestKeepsForgetsTheParts(t *testing.T) {
	adv := []int{90, 100, 110}
	keeps(t, true, adv...)
	adv[1] = 5
	keeps(t, true)
	keeps(t, true, 90)
	keeps(t, false, adv...)
	adv[1] = 105
	keeps(t, true, adv...)
}
